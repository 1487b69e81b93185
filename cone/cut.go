package cone

import (
	"slices"

	"trestle/api"
)

// none stands in place of a literal, or a variable, where there is none.
const none = -1

// coneOf is the cone of a property: all on which its roots hang.
func coneOf(c api.Circuit, p api.Prop) support {
	return supportOf(throughLatches(c), rootsOf(c, p))
}

// rootsOf is the roots of a property.
func rootsOf(c api.Circuit, p api.Prop) []int {
	if p.Kind == api.SBad {
		return append([]int{c.Bads[p.At]}, c.Constraints...)
	}
	roots := slices.Concat(c.Justice[p.At], c.Fairness, c.Constraints)
	for _, l := range c.Latches {
		roots = append(roots, l.Lit)
	}
	return roots
}

// literals gives of each variable of a circuit the literal that it is in a cut, or none.
type literals []int

// cutOf is the part of a circuit that is in a property's cone.
func cutOf(c api.Circuit, p api.Prop, cone support) api.Cut {
	inputs, latches, gates := cone.inputs(c), cone.latches(c), cone.gates(c)
	m := newLiterals(c, inputs, latches, gates)
	out := api.Circuit{Max: len(inputs) + len(latches) + len(gates), Constraints: m.all(c.Constraints)}
	for _, i := range inputs {
		out.Inputs = append(out.Inputs, m.of(c.Inputs[i]))
	}
	for _, i := range latches {
		l := c.Latches[i]
		// A reset of 0 or 1 stays so by the map, too.
		out.Latches = append(out.Latches, api.Latch{Lit: m.of(l.Lit), Next: m.of(l.Next), Reset: m.of(l.Reset)})
	}
	for _, i := range gates {
		g := c.Ands[i]
		out.Ands = append(out.Ands, api.And{Out: m.of(g.Out), Left: m.of(g.Left), Right: m.of(g.Right)})
	}
	if p.Kind == api.SBad {
		out.Bads = []int{m.of(c.Bads[p.At])}
	} else {
		out.Justice, out.Fairness = [][]int{m.all(c.Justice[p.At])}, m.all(c.Fairness)
	}
	return api.Cut{C: out, Lits: m, Inputs: inputs, Latches: latches}
}

// newLiterals numbers what some inputs, latches and gates of a circuit define, one behind the other.
func newLiterals(c api.Circuit, inputs, latches, gates []int) literals {
	m := literals(slices.Repeat([]int{none}, c.Max+1))
	m[0] = 0
	last := 0
	number := func(l int) {
		last += 2
		m[l/2] = last
	}
	for _, i := range inputs {
		number(c.Inputs[i])
	}
	for _, i := range latches {
		number(c.Latches[i].Lit)
	}
	for _, i := range gates {
		number(c.Ands[i].Out)
	}
	return m
}

// of is what a literal that is in the cut is there.
func (m literals) of(l int) int { return m[l/2] + l%2 }

// all is what the literals of a list are in the cut.
func (m literals) all(list []int) []int {
	out := make([]int, len(list))
	for i, l := range list {
		out[i] = m.of(l)
	}
	return out
}
