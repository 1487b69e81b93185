package shape

import (
	"slices"

	"trestle/api"
)

// Copy is a circuit of new lists with the same members, whether it is right or not.
func Copy(c api.Circuit) api.Circuit {
	out := api.Circuit{
		Max:         c.Max,
		Inputs:      slices.Clone(c.Inputs),
		Latches:     slices.Clone(c.Latches),
		Outputs:     slices.Clone(c.Outputs),
		Bads:        slices.Clone(c.Bads),
		Constraints: slices.Clone(c.Constraints),
		Justice:     slices.Clone(c.Justice),
		Fairness:    slices.Clone(c.Fairness),
		Ands:        slices.Clone(c.Ands),
		Symbols:     slices.Clone(c.Symbols),
		Comments:    slices.Clone(c.Comments),
	}
	for i, j := range out.Justice {
		out.Justice[i] = slices.Clone(j)
	}
	return out
}

// Same tells whether two circuits have the same greatest variable and the same members, in order.
func Same(a, b api.Circuit) bool {
	return a.Max == b.Max &&
		slices.Equal(a.Inputs, b.Inputs) &&
		slices.Equal(a.Latches, b.Latches) &&
		slices.Equal(a.Outputs, b.Outputs) &&
		slices.Equal(a.Bads, b.Bads) &&
		slices.Equal(a.Constraints, b.Constraints) &&
		slices.EqualFunc(a.Justice, b.Justice, slices.Equal) &&
		slices.Equal(a.Fairness, b.Fairness) &&
		slices.Equal(a.Ands, b.Ands) &&
		slices.Equal(a.Symbols, b.Symbols) &&
		slices.Equal(a.Comments, b.Comments)
}
