package binary

import "trestle/api"

// The places of a header's counts, as layer 4 tells them.
const (
	ofMax = iota
	ofInputs
	ofLatches
	ofOutputs
	ofAnds
	ofBads
	ofConstraints
	ofJustice
	ofFairness
)

// outline is the circuit as far as its header tells it: lists of as many members as it says, and the literals of inputs, latches and gates, which go by their order.
func outline(counts []int) api.Circuit {
	c := api.Circuit{
		Max:         counts[ofMax],
		Inputs:      make([]int, counts[ofInputs]),
		Latches:     make([]api.Latch, counts[ofLatches]),
		Outputs:     make([]int, counts[ofOutputs]),
		Bads:        make([]int, counts[ofBads]),
		Constraints: make([]int, counts[ofConstraints]),
		Justice:     make([][]int, counts[ofJustice]),
		Fairness:    make([]int, counts[ofFairness]),
		Ands:        make([]api.And, counts[ofAnds]),
	}
	last := 0
	next := func() int {
		last += 2
		return last
	}
	for i := range c.Inputs {
		c.Inputs[i] = next()
	}
	for i := range c.Latches {
		c.Latches[i].Lit = next()
	}
	for i := range c.Ands {
		c.Ands[i].Out = next()
	}
	return c
}
