package print_test

import (
	"math/rand"
	"strings"
	"testing"

	"trestle/api"
	"trestle/print"
	"trestle/samples"
)

// 6.1: the chapter's examples, and circuits of nothing.
func TestTextByExample(t *testing.T) {
	texts(t, api.Circuit{Max: 1, Latches: []api.Latch{{Lit: 2, Next: 3}}, Bads: []int{2}}, "aag 1 0 1 0 0 1\n2 3\n2\n")
	texts(t, api.Circuit{Max: 3, Inputs: []int{2, 4}, Outputs: []int{7}, Ands: []api.And{{Out: 6, Left: 4, Right: 2}}}, "aag 3 2 0 1 1\n2\n4\n7\n6 4 2\n")
	texts(t, api.Circuit{Max: 3, Inputs: []int{4, 6}, Ands: []api.And{{Out: 2, Left: 4, Right: 6}}}, "aag 3 2 0 0 1\n4\n6\n2 4 6\n")
	texts(t, api.Circuit{}, "aag 0 0 0 0 0\n")
	texts(t, api.Circuit{Max: 7}, "aag 7 0 0 0 0\n")
	texts(t, api.Circuit{Max: api.MaxVar}, "aag 16384 0 0 0 0\n")
	texts(t, api.Circuit{Max: api.MaxVar, Inputs: []int{2 * api.MaxVar}, Outputs: []int{2*api.MaxVar + 1, 0, 1}}, "aag 16384 1 0 3 0\n32768\n32769\n0\n1\n")
}

// 6.1: something of all that a text may have, as it stands: gates ahead of those that they use, variables in any order.
func TestTextOfAll(t *testing.T) {
	texts(t, samples.Right(), samples.Lines(
		"aag 12 2 3 3 4 2 2 3 2",
		"8", "2",
		"6 21 6", "14 8 1", "4 15",
		"20", "1", "3",
		"18", "18",
		"0", "9",
		"0", "2", "1",
		"6", "7", "24",
		"5", "22",
		"20 22 19", "18 3 6", "22 18 18", "24 0 20",
		"f1 fair", "i1  ", "l2 \x7f\xff", "o0 o", "b1 bad", "c0 c", "j2 j", "i0 fair",
		"c", "", "a comment\x00\r",
	))
}

// 6.1: the header ends behind the last count that is not 0, wherever that stands.
func TestTextOfCounts(t *testing.T) {
	for _, x := range allCounts() {
		texts(t, x.c, "aag "+x.numbers+"\n2\n"+x.rest)
	}
	texts(t, api.Circuit{Fairness: []int{0}}, "aag 0 0 0 0 0 0 0 0 1\n0\n")
	texts(t, api.Circuit{Justice: [][]int{nil}}, "aag 0 0 0 0 0 0 0 1\n0\n")
	texts(t, api.Circuit{Constraints: []int{1}}, "aag 0 0 0 0 0 0 1\n1\n")
	texts(t, api.Circuit{Bads: []int{0, 1, 0}}, "aag 0 0 0 0 0 3\n0\n1\n0\n")
	texts(t, api.Circuit{Outputs: []int{0}}, "aag 0 0 0 1 0\n0\n")
}

// 6.1: resets of 0, which are left out, of 1, and of the latch's own literal.
func TestTextOfResets(t *testing.T) {
	texts(t, api.Circuit{Max: 1, Latches: []api.Latch{{Lit: 2, Next: 0}}}, "aag 1 0 1 0 0\n2 0\n")
	texts(t, api.Circuit{Max: 1, Latches: []api.Latch{{Lit: 2, Next: 1, Reset: 1}}}, "aag 1 0 1 0 0\n2 1 1\n")
	texts(t, api.Circuit{Max: 1, Latches: []api.Latch{{Lit: 2, Next: 2, Reset: 2}}}, "aag 1 0 1 0 0\n2 2 2\n")
	texts(t, api.Circuit{Max: 9, Latches: []api.Latch{{Lit: 18, Next: 5, Reset: 18}, {Lit: 4, Next: 19, Reset: 0}, {Lit: 2, Next: 3, Reset: 1}}}, "aag 9 0 3 0 0\n18 5 18\n4 19\n2 3 1\n")
}

// 6.1: justice properties of no literals and of several: first how many each one has, then these.
func TestTextOfJustice(t *testing.T) {
	texts(t, api.Circuit{Justice: [][]int{{}, {1, 0, 1}, nil, {0}}, Fairness: []int{1}}, "aag 0 0 0 0 0 0 0 4 1\n0\n3\n0\n1\n1\n0\n1\n0\n1\n")
	texts(t, api.Circuit{Justice: [][]int{{}, {}}}, "aag 0 0 0 0 0 0 0 2\n0\n0\n")
	texts(t, api.Circuit{Justice: [][]int{sameNumbers(12, 1)}}, "aag 0 0 0 0 0 0 0 1\n12\n"+strings.Repeat("1\n", 12))
}

// 6.1: gates of the same literal twice, of 0 and 1, of literals in each order, negated or not: told as they are.
func TestTextOfGates(t *testing.T) {
	const rest = "aag 3 2 0 0 1\n2\n4\n6 "
	for left := range 6 {
		for right := range 6 {
			c := inputs(2)
			c.Max, c.Ands = 3, []api.And{{Out: 6, Left: left, Right: right}}
			texts(t, c, rest+samples.Numbers(left, right)+"\n")
		}
	}
}

// 6.1: symbols of each kind, names and comments of no byte and of many, none of these.
func TestTextOfEnds(t *testing.T) {
	c := api.Circuit{
		Max: 4, Inputs: []int{2, 4}, Latches: []api.Latch{{Lit: 6}, {Lit: 8}}, Outputs: []int{0, 1}, Bads: []int{2, 3}, Constraints: []int{4, 5}, Justice: [][]int{{}, {6}}, Fairness: []int{8, 9},
	}
	const text = "aag 4 2 2 2 0 2 2 2 2\n2\n4\n6 0\n8 0\n0\n1\n2\n3\n4\n5\n0\n1\n6\n8\n9\n"
	const bin = "aig 4 2 2 2 0 2 2 2 2\n0\n0\n0\n1\n2\n3\n4\n5\n0\n1\n6\n8\n9\n"
	for _, x := range endings() {
		c.Symbols, c.Comments = x.symbols, x.comments
		texts(t, c, text+x.want)
		bytes(t, c, bin+x.want)
	}
}

// 6.1: lists of as many members as may be, and of one more.
func TestTextOfLongLists(t *testing.T) {
	const n = api.MaxItems
	all := strings.Repeat("1\n", n)
	texts(t, api.Circuit{Outputs: sameNumbers(n, 1)}, "aag 0 0 0 16384 0\n"+all)
	texts(t, api.Circuit{Bads: sameNumbers(n, 1)}, "aag 0 0 0 0 0 16384\n"+all)
	texts(t, api.Circuit{Constraints: sameNumbers(n, 1)}, "aag 0 0 0 0 0 0 16384\n"+all)
	texts(t, api.Circuit{Justice: [][]int{sameNumbers(n, 1)}}, "aag 0 0 0 0 0 0 0 1\n16384\n"+all)
	texts(t, api.Circuit{Justice: make([][]int, n)}, "aag 0 0 0 0 0 0 0 16384\n"+strings.Repeat("0\n", n))
	texts(t, api.Circuit{Fairness: sameNumbers(n, 1)}, "aag 0 0 0 0 0 0 0 0 16384\n"+all)
	texts(t, api.Circuit{Comments: make([]string, n)}, "aag 0 0 0 0 0\nc\n"+strings.Repeat("\n", n))
	texts(t, inputs(n), samples.Text(inputs(n), samples.Least))
	for name, call := range printers() {
		refuses(t, name, call, api.Circuit{Outputs: sameNumbers(n+1, 1)}, api.ErrLong)
		refuses(t, name, call, api.Circuit{Justice: make([][]int, n+1)}, api.ErrLong)
		refuses(t, name, call, api.Circuit{Justice: [][]int{sameNumbers(n, 1), {0}}}, api.ErrLong)
		refuses(t, name, call, api.Circuit{Comments: make([]string, n+1)}, api.ErrLong)
	}
}

// 6.1: circuits by chance, in which nothing is told that may be left out.
func TestTextByChance(t *testing.T) {
	r := rand.New(rand.NewSource(61))
	for range 5000 {
		c := samples.Circuit(r.Intn)
		texts(t, c, samples.Text(c, samples.Least))
	}
}

// 6.1 to 6.3: what layer 3 refuses, each thing that is wrong alone, and with each one that is named behind it.
func TestWrongCircuits(t *testing.T) {
	calls := printers()
	calls["Head aag"] = func(c api.Circuit) (string, api.Errno) { return print.Head("aag", c) }
	calls["Head aig"] = func(c api.Circuit) (string, api.Errno) { return print.Head("aig", c) }
	all := samples.Faults()
	for i, first := range all {
		for _, second := range all[i:] {
			c := samples.Clone(samples.Right())
			second.Do(&c)
			first.Do(&c)
			for name, call := range calls {
				refuses(t, name+": "+first.Name+", "+second.Name, call, c, first.Want)
			}
		}
	}
}
