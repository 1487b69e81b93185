package shape

import (
	"slices"

	"trestle/api"
)

// Renumber is the circuit with the binary order, and of each variable of the circuit handed in its new literal (0: it is not defined).
func Renumber(c api.Circuit) (api.Circuit, []int, api.Errno) {
	gates, e := Order(c)
	if e != api.OK {
		return api.Circuit{}, nil, e
	}
	m := newLiterals(c, gates)
	move := func(l int) int { return m[l/2] | l%2 }
	out := Copy(c)
	out.Max = len(c.Inputs) + len(c.Latches) + len(c.Ands)
	for _, list := range append(slices.Clone(out.Justice), out.Inputs, out.Outputs, out.Bads, out.Constraints, out.Fairness) {
		for i, l := range list {
			list[i] = move(l)
		}
	}
	for i, l := range c.Latches {
		// A reset of 0 or 1 stays so by the map, too.
		out.Latches[i] = api.Latch{Lit: move(l.Lit), Next: move(l.Next), Reset: move(l.Reset)}
	}
	for i, at := range gates {
		g := c.Ands[at]
		left, right := move(g.Left), move(g.Right)
		out.Ands[i] = api.And{Out: move(g.Out), Left: max(left, right), Right: min(left, right)}
	}
	return out, m, api.OK
}

// newLiterals numbers the variables of a circuit: inputs, latches, and the gates as they are told.
func newLiterals(c api.Circuit, gates []int) []int {
	m := make([]int, c.Max+1)
	last := 0
	number := func(l int) {
		last += 2
		m[l/2] = last
	}
	for _, l := range c.Inputs {
		number(l)
	}
	for _, l := range c.Latches {
		number(l.Lit)
	}
	for _, at := range gates {
		number(c.Ands[at].Out)
	}
	return m
}

// IsBinary tells whether a circuit has the binary order.
func IsBinary(c api.Circuit) (bool, api.Errno) {
	if _, e := Check(c); e != api.OK {
		return false, e
	}
	last := 0
	follows := func(l int) bool {
		last += 2
		return l == last
	}
	for _, l := range c.Inputs {
		if !follows(l) {
			return false, api.OK
		}
	}
	for _, l := range c.Latches {
		if !follows(l.Lit) {
			return false, api.OK
		}
	}
	for _, g := range c.Ands {
		if !follows(g.Out) || g.Out <= g.Left || g.Left < g.Right {
			return false, api.OK
		}
	}
	return last == 2*c.Max, api.OK
}
