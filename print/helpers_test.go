package print_test

import (
	"strings"
	"testing"

	"trestle/api"
	"trestle/print"
	"trestle/samples"
	"trestle/shape"
)

// printer is each call that tells a whole circuit.
type printer func(c api.Circuit) (string, api.Errno)

// printers is these calls, by their names.
func printers() map[string]printer {
	return map[string]printer{"Text": print.Text, "Bytes": print.Bytes, "Either": print.Either}
}

// holds holds what a call told against what is wanted; beside an error there must be nothing.
func holds(t *testing.T, what any, s string, e api.Errno, want string, code api.Errno) {
	t.Helper()
	if s != want || e != code {
		t.Fatalf("%v: %s, %v, want %s, %v", what, samples.Short(s), e, samples.Short(want), code)
	}
}

// texts holds Text against a text.
func texts(t *testing.T, c api.Circuit, want string) {
	t.Helper()
	s, e := print.Text(c)
	holds(t, "Text", s, e, want, api.OK)
}

// bytes holds Bytes, and Either, against a text of a circuit that has the binary order.
func bytes(t *testing.T, c api.Circuit, want string) {
	t.Helper()
	s, e := print.Bytes(c)
	holds(t, "Bytes", s, e, want, api.OK)
	either(t, c, want)
}

// either holds Either against a text.
func either(t *testing.T, c api.Circuit, want string) {
	t.Helper()
	s, e := print.Either(c)
	holds(t, "Either", s, e, want, api.OK)
}

// unsorted holds Bytes against a circuit that has not the binary order, and Either against the text of it in that order.
func unsorted(t *testing.T, c api.Circuit, want string) {
	t.Helper()
	s, e := print.Bytes(c)
	holds(t, "Bytes", s, e, "", api.ErrSort)
	either(t, c, want)
}

// refuses holds a call of a circuit against the error that is wanted.
func refuses(t *testing.T, what any, call printer, c api.Circuit, code api.Errno) {
	t.Helper()
	s, e := call(c)
	holds(t, what, s, e, "", code)
}

// heads holds Head against what is wanted.
func heads(t *testing.T, word string, c api.Circuit, want string, code api.Errno) {
	t.Helper()
	s, e := print.Head(word, c)
	holds(t, word, s, e, want, code)
}

// tails holds Tail against what is wanted.
func tails(t *testing.T, symbols []api.Symbol, comments []string, want string, code api.Errno) {
	t.Helper()
	s, e := print.Tail(symbols, comments)
	holds(t, "Tail", s, e, want, code)
}

// binaryOf is a circuit renumbered to the binary order.
func binaryOf(t *testing.T, c api.Circuit) api.Circuit {
	t.Helper()
	out, _, e := shape.Renumber(c)
	if e != api.OK {
		t.Fatalf("%+v: %v", c, e)
	}
	return out
}

// inputs is a circuit of n inputs in the binary order.
func inputs(n int) api.Circuit {
	c := api.Circuit{Max: n}
	for i := range n {
		c.Inputs = append(c.Inputs, 2*i+2)
	}
	return c
}

// sameNumbers is n times the same number.
func sameNumbers(n, x int) []int {
	out := make([]int, n)
	for i := range out {
		out[i] = x
	}
	return out
}

// one is a list of one symbol.
func one(kind byte, at int, name string) []api.Symbol {
	return []api.Symbol{{Kind: kind, At: at, Name: name}}
}

// x is a text of n bytes.
func x(n int) string { return strings.Repeat("x", n) }

// counted is a circuit of an input and of some bads, constraints, justice properties and fairness literals, and the header's numbers and the lines of these.
type counted struct {
	c             api.Circuit
	numbers, rest string
}

// countedOf makes one of these of 0 to 2 things of each kind.
func countedOf(bads, constraints, justice, fairness int) counted {
	c := inputs(1)
	c.Bads, c.Constraints, c.Fairness = sameNumbers(bads, 2), sameNumbers(constraints, 3), sameNumbers(fairness, 1)
	for range justice {
		c.Justice = append(c.Justice, []int{0})
	}
	numbers := "1 1 0 0 0"
	switch {
	case fairness > 0:
		numbers += " " + samples.Numbers(bads, constraints, justice, fairness)
	case justice > 0:
		numbers += " " + samples.Numbers(bads, constraints, justice)
	case constraints > 0:
		numbers += " " + samples.Numbers(bads, constraints)
	case bads > 0:
		numbers += " " + samples.Numbers(bads)
	}
	rest := strings.Repeat("2\n", bads) + strings.Repeat("3\n", constraints) + strings.Repeat("1\n", justice) + strings.Repeat("0\n", justice) + strings.Repeat("1\n", fairness)
	return counted{c, numbers, rest}
}

// allCounts is all of these: the header ends at each of its places.
func allCounts() []counted {
	var all []counted
	for i := range 81 {
		all = append(all, countedOf(i%3, i/3%3, i/9%3, i/27))
	}
	return all
}

// ending is symbols and comments, and the end of a text that tells them.
type ending struct {
	symbols  []api.Symbol
	comments []string
	want     string
}

// endings is ones that a circuit of two things of each kind may have.
func endings() []ending {
	long := x(api.MaxName)
	return []ending{
		{nil, nil, ""}, {[]api.Symbol{}, []string{}, ""},
		{one('i', 1, "x"), nil, "i1 x\n"}, {one('l', 0, long), nil, "l0 " + long + "\n"}, {one('o', 1, " "), nil, "o1  \n"}, {one('b', 0, "c"), nil, "b0 c\n"},
		{one('c', 1, "c\x7f\xff"), nil, "c1 c\x7f\xff\n"}, {one('j', 0, "i0 x"), nil, "j0 i0 x\n"}, {one('f', 1, "ü"), nil, "f1 ü\n"},
		{[]api.Symbol{{Kind: 'f', At: 1, Name: "f"}, {Kind: 'i', At: 1, Name: "b"}, {Kind: 'i', At: 0, Name: "a"}, {Kind: 'b', At: 0, Name: "a"}}, nil, "f1 f\ni1 b\ni0 a\nb0 a\n"},
		{nil, []string{""}, "c\n\n"}, {nil, []string{"", ""}, "c\n\n\n"}, {nil, []string{"c"}, "c\nc\n"}, {nil, []string{"i0 x", "", " \r\x00\xff "}, "c\ni0 x\n\n \r\x00\xff \n"}, {nil, []string{x(300)}, "c\n" + x(300) + "\n"},
		{one('c', 0, "x y"), []string{"b", "a"}, "c0 x y\nc\nb\na\n"},
	}
}
