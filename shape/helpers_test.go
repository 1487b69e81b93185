package shape_test

import (
	"math"
	"slices"
	"strings"
	"testing"

	"trestle/api"
)

// right is a right circuit with something in each list; its variables 5, 6 and 8 are not defined, and its gates stand ahead of those that they use.
func right() api.Circuit {
	return api.Circuit{
		Max:         12,
		Inputs:      []int{8, 2},
		Latches:     []api.Latch{{Lit: 6, Next: 21, Reset: 6}, {Lit: 14, Next: 8, Reset: 1}, {Lit: 4, Next: 15, Reset: 0}},
		Outputs:     []int{20, 1, 3},
		Bads:        []int{18, 18},
		Constraints: []int{0, 9},
		Justice:     [][]int{{}, {6, 7}, {24}},
		Fairness:    []int{5, 22},
		Ands:        []api.And{{Out: 20, Left: 22, Right: 19}, {Out: 18, Left: 3, Right: 6}, {Out: 22, Left: 18, Right: 18}, {Out: 24, Left: 0, Right: 20}},
		Symbols: []api.Symbol{
			{Kind: 'f', At: 1, Name: "fair"}, {Kind: 'i', At: 1, Name: " "}, {Kind: 'l', At: 2, Name: "\x7f\xff"}, {Kind: 'o', At: 0, Name: "o"},
			{Kind: 'b', At: 1, Name: "bad"}, {Kind: 'c', At: 0, Name: "c"}, {Kind: 'j', At: 2, Name: "j"}, {Kind: 'i', At: 0, Name: "fair"},
		},
		Comments: []string{"", "a comment\x00\r"},
	}
}

// clone is a circuit of new lists, each with spare room behind it.
func clone(c api.Circuit) api.Circuit {
	c.Inputs, c.Outputs, c.Bads = roomy(c.Inputs), roomy(c.Outputs), roomy(c.Bads)
	c.Constraints, c.Fairness = roomy(c.Constraints), roomy(c.Fairness)
	c.Latches, c.Ands = roomy(c.Latches), roomy(c.Ands)
	c.Symbols, c.Comments = roomy(c.Symbols), roomy(c.Comments)
	c.Justice = roomy(c.Justice)
	for i := range c.Justice {
		c.Justice[i] = roomy(c.Justice[i])
	}
	return c
}

// roomy is a copy of a list with room behind it.
func roomy[T any](l []T) []T { return append(make([]T, 0, len(l)+3), l...) }

// fault is something wrong that is done to the circuit right, and what Check says of it.
type fault struct {
	name string
	at   int
	want api.Errno
	do   func(c *api.Circuit)
}

// faults stand in the order in which the chapter names them, so that the first one of several is the one that is answered. None takes away what another one did.
func faults() []fault {
	return slices.Concat(sizeFaults(), definedFaults(), usedFaults(), endFaults())
}

func sizeFaults() []fault {
	return []fault{
		{"Max below 0", 0, api.ErrRange, func(c *api.Circuit) { c.Max = -1 }},
		{"too many comments", 0, api.ErrLong, func(c *api.Circuit) { c.Comments = append(c.Comments, make([]string, api.MaxItems)...) }},
	}
}

func definedFaults() []fault {
	return []fault{
		{"an odd input", 0, api.ErrLit, func(c *api.Circuit) { c.Inputs[0] = 17 }},
		{"an input twice", 1, api.ErrTwice, func(c *api.Circuit) { c.Inputs[1] = 8 }},
		{"a reset that is none", 0, api.ErrReset, func(c *api.Circuit) { c.Latches[0].Reset = 7 }},
		{"a latch below 0", 1, api.ErrLit, func(c *api.Circuit) { c.Latches[1].Lit = -2 }},
		{"a latch twice", 2, api.ErrTwice, func(c *api.Circuit) { c.Latches[2].Lit = 6 }},
		{"and its reset", 2, api.ErrReset, func(c *api.Circuit) { c.Latches[2].Reset = 2 }},
		{"a gate above Max", 0, api.ErrLit, func(c *api.Circuit) { c.Ands[0].Out = 26 }},
		{"a gate twice", 3, api.ErrTwice, func(c *api.Circuit) { c.Ands[3].Out = 18 }},
	}
}

func usedFaults() []fault {
	return []fault{
		{"Next above Max", 0, api.ErrLit, func(c *api.Circuit) { c.Latches[0].Next = 26 }},
		{"Next loose", 1, api.ErrLoose, func(c *api.Circuit) { c.Latches[1].Next = 10 }},
		{"an output below 0", 0, api.ErrLit, func(c *api.Circuit) { c.Outputs[0] = -1 }},
		{"an output loose", 2, api.ErrLoose, func(c *api.Circuit) { c.Outputs[2] = 11 }},
		{"a bad above Max", 1, api.ErrLit, func(c *api.Circuit) { c.Bads[1] = 27 }},
		{"a constraint loose", 0, api.ErrLoose, func(c *api.Circuit) { c.Constraints[0] = 13 }},
		{"a justice literal below 0", 1, api.ErrLit, func(c *api.Circuit) { c.Justice[1][0] = -2 }},
		{"a later one loose", 1, api.ErrLoose, func(c *api.Circuit) { c.Justice[1][1] = 16 }},
		{"a justice literal loose", 2, api.ErrLoose, func(c *api.Circuit) { c.Justice[2][0] = 17 }},
		{"a fairness literal above Max", 0, api.ErrLit, func(c *api.Circuit) { c.Fairness[0] = math.MaxInt }},
		{"Left loose", 0, api.ErrLoose, func(c *api.Circuit) { c.Ands[0].Left = 10 }},
		{"Right above Max", 0, api.ErrLit, func(c *api.Circuit) { c.Ands[0].Right = 26 }},
		{"Left below 0", 2, api.ErrLit, func(c *api.Circuit) { c.Ands[2].Left = math.MinInt }},
		{"Right loose", 2, api.ErrLoose, func(c *api.Circuit) { c.Ands[2].Right = 11 }},
	}
}

func endFaults() []fault {
	return []fault{
		{"a gate that comes round over three", 1, api.ErrCycle, func(c *api.Circuit) { c.Ands[1].Left, c.Ands[3].Right = 25, 23 }},
		{"a gate that uses itself", 3, api.ErrCycle, func(c *api.Circuit) { c.Ands[3].Left = 24 }},
		{"a kind that is none", 0, api.ErrSymbol, func(c *api.Circuit) { c.Symbols[0].Kind = 'x' }},
		{"a symbol of no place", 1, api.ErrSymbol, func(c *api.Circuit) { c.Symbols[1].At = 2 }},
		{"a symbol without a name", 2, api.ErrSymbol, func(c *api.Circuit) { c.Symbols[2].Name = "" }},
		{"a name too long", 3, api.ErrSymbol, func(c *api.Circuit) { c.Symbols[3].Name = strings.Repeat("n", api.MaxName+1) }},
		{"a byte below 32", 4, api.ErrSymbol, func(c *api.Circuit) { c.Symbols[4].Name = "a\x1f" }},
		{"a symbol twice", 6, api.ErrSymbol, func(c *api.Circuit) { c.Symbols[6] = api.Symbol{Kind: 'c', At: 0, Name: "d"} }},
		{"a comment with a line's end", 0, api.ErrComment, func(c *api.Circuit) { c.Comments[0] = "\n" }},
		{"a later one", 1, api.ErrComment, func(c *api.Circuit) { c.Comments[1] = "a\nb" }},
	}
}

// chain is a circuit of an input and n gates, of which each but the last one uses the next one behind it, on both sides; the last one uses the literal end.
func chain(n, end int) api.Circuit {
	c := api.Circuit{Max: n + 1, Inputs: []int{2}}
	for i := range n {
		next := 2*(i+2) + 2
		if i == n-1 {
			next = end
		}
		c.Ands = append(c.Ands, api.And{Out: 2*i + 4, Left: next, Right: next ^ 1})
	}
	return c
}

// numbersOf is all places of a circuit where a number stands.
func numbersOf(c *api.Circuit) []*int {
	out := []*int{&c.Max}
	for _, list := range append(slices.Clone(c.Justice), c.Inputs, c.Outputs, c.Bads, c.Constraints, c.Fairness) {
		for i := range list {
			out = append(out, &list[i])
		}
	}
	for i := range c.Latches {
		out = append(out, &c.Latches[i].Lit, &c.Latches[i].Next, &c.Latches[i].Reset)
	}
	for i := range c.Ands {
		out = append(out, &c.Ands[i].Out, &c.Ands[i].Left, &c.Ands[i].Right)
	}
	for i := range c.Symbols {
		out = append(out, &c.Symbols[i].At)
	}
	return out
}

// sameCircuit holds two circuits against each other, member by member.
func sameCircuit(t *testing.T, what string, got, want api.Circuit) {
	t.Helper()
	ints := func(c api.Circuit) [][]int {
		return append([][]int{{c.Max}, c.Inputs, c.Outputs, c.Bads, c.Constraints, c.Fairness, {len(c.Justice)}}, c.Justice...)
	}
	if !slices.EqualFunc(ints(got), ints(want), slices.Equal) || !slices.Equal(got.Latches, want.Latches) || !slices.Equal(got.Ands, want.Ands) ||
		!slices.Equal(got.Symbols, want.Symbols) || !slices.Equal(got.Comments, want.Comments) {
		t.Fatalf("%s:\n%+v, want\n%+v", what, got, want)
	}
}

// isNothing tells whether a circuit is the zero value.
func isNothing(c api.Circuit) bool {
	return c.Max == 0 && len(c.Inputs)+len(c.Latches)+len(c.Outputs)+len(c.Bads)+len(c.Constraints)+len(c.Justice)+len(c.Fairness)+len(c.Ands)+len(c.Symbols)+len(c.Comments) == 0
}
