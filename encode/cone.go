package encode

import (
	"slices"

	"trestle/api"
)

// coneOf is the gates, as they stand in the list, on which one of some literals hangs within one step. In the order that is told each gate stands behind those that it uses, so from its end on each one is met when all is known that uses it.
func coneOf(c api.Circuit, order, lits []int) []api.And {
	hungOn := make([]bool, c.Max+1)
	for _, l := range lits {
		hungOn[l/2] = true
	}
	for _, i := range slices.Backward(order) {
		if g := c.Ands[i]; hungOn[g.Out/2] {
			hungOn[g.Left/2], hungOn[g.Right/2] = true, true
		}
	}
	var gates []api.And
	for _, g := range c.Ands {
		if hungOn[g.Out/2] {
			gates = append(gates, g)
		}
	}
	return gates
}
