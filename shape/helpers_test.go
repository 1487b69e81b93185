package shape_test

import (
	"slices"
	"testing"

	"trestle/api"
)

// chain is a circuit of an input and n gates, of which each but the last one uses the next one behind it, on both sides; the last one uses the literal end.
func chain(n, end int) api.Circuit {
	c := api.Circuit{Max: n + 1, Inputs: []int{2}}
	for i := range n {
		next := 2*(i+2) + 2
		if i == n-1 {
			next = end
		}
		c.Ands = append(c.Ands, api.And{Out: 2*i + 4, Left: next, Right: next ^ 1})
	}
	return c
}

// sameCircuit holds two circuits against each other, member by member.
func sameCircuit(t *testing.T, what string, got, want api.Circuit) {
	t.Helper()
	ints := func(c api.Circuit) [][]int {
		return append([][]int{{c.Max}, c.Inputs, c.Outputs, c.Bads, c.Constraints, c.Fairness, {len(c.Justice)}}, c.Justice...)
	}
	if !slices.EqualFunc(ints(got), ints(want), slices.Equal) || !slices.Equal(got.Latches, want.Latches) || !slices.Equal(got.Ands, want.Ands) ||
		!slices.Equal(got.Symbols, want.Symbols) || !slices.Equal(got.Comments, want.Comments) {
		t.Fatalf("%s:\n%+v, want\n%+v", what, got, want)
	}
}

// isNothing tells whether a circuit is the zero value.
func isNothing(c api.Circuit) bool {
	return c.Max == 0 && len(c.Inputs)+len(c.Latches)+len(c.Outputs)+len(c.Bads)+len(c.Constraints)+len(c.Justice)+len(c.Fairness)+len(c.Ands)+len(c.Symbols)+len(c.Comments) == 0
}
