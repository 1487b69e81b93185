package samples

import "trestle/api"

// Right is a right circuit with something in each list; its variables 5, 6 and 8 are not defined, and its gates stand ahead of those that they use.
func Right() api.Circuit {
	return api.Circuit{
		Max:         12,
		Inputs:      []int{8, 2},
		Latches:     []api.Latch{{Lit: 6, Next: 21, Reset: 6}, {Lit: 14, Next: 8, Reset: 1}, {Lit: 4, Next: 15, Reset: 0}},
		Outputs:     []int{20, 1, 3},
		Bads:        []int{18, 18},
		Constraints: []int{0, 9},
		Justice:     [][]int{{}, {6, 7}, {24}},
		Fairness:    []int{5, 22},
		Ands:        []api.And{{Out: 20, Left: 22, Right: 19}, {Out: 18, Left: 3, Right: 6}, {Out: 22, Left: 18, Right: 18}, {Out: 24, Left: 0, Right: 20}},
		Symbols: []api.Symbol{
			{Kind: 'f', At: 1, Name: "fair"}, {Kind: 'i', At: 1, Name: " "}, {Kind: 'l', At: 2, Name: "\x7f\xff"}, {Kind: 'o', At: 0, Name: "o"},
			{Kind: 'b', At: 1, Name: "bad"}, {Kind: 'c', At: 0, Name: "c"}, {Kind: 'j', At: 2, Name: "j"}, {Kind: 'i', At: 0, Name: "fair"},
		},
		Comments: []string{"", "a comment\x00\r"},
	}
}

// Clone is a circuit of new lists, each with spare room behind it.
func Clone(c api.Circuit) api.Circuit {
	c.Inputs, c.Outputs, c.Bads = roomy(c.Inputs), roomy(c.Outputs), roomy(c.Bads)
	c.Constraints, c.Fairness = roomy(c.Constraints), roomy(c.Fairness)
	c.Latches, c.Ands = roomy(c.Latches), roomy(c.Ands)
	c.Symbols, c.Comments = roomy(c.Symbols), roomy(c.Comments)
	c.Justice = roomy(c.Justice)
	for i := range c.Justice {
		c.Justice[i] = roomy(c.Justice[i])
	}
	return c
}

// roomy is a copy of a list with room behind it.
func roomy[T any](l []T) []T { return append(make([]T, 0, len(l)+3), l...) }
