package hash

import (
	"slices"

	"trestle/api"
	"trestle/shape"
)

// Build is a circuit built anew, and of each variable of the one that was handed in the literal that it has become (0: it is not defined).
func Build(c api.Circuit) (api.Circuit, []int, api.Errno) {
	gates, e := shape.Order(c)
	if e != api.OK {
		return api.Circuit{}, nil, e
	}
	// A right circuit has no more variables than a builder may have, and what is built of it has no more than it: neither New nor a call of the builder fails.
	b, _ := New(len(c.Inputs), len(c.Latches))
	m := tell(b, c, gates)
	return built(b, c, m), m, api.OK
}

// became gives of each variable of a circuit the literal that it has become.
type became []int

// tell tells a circuit's gates to a builder of its inputs and latches, in an order in which each one stands behind those that it uses.
func tell(b *Builder, c api.Circuit, gates []int) became {
	m := make(became, c.Max+1)
	for i, l := range c.Inputs {
		m[l/2], _ = b.Input(i)
	}
	for i, l := range c.Latches {
		m[l.Lit/2], _ = b.Latch(i)
	}
	for _, i := range gates {
		g := c.Ands[i]
		m[g.Out/2], _ = b.And(m.of(g.Left), m.of(g.Right))
	}
	return m
}

// of is what a literal has become.
func (m became) of(l int) int { return m[l/2] ^ l%2 }

// all is what the literals of a list have become.
func (m became) all(list []int) []int {
	out := make([]int, len(list))
	for i, l := range list {
		out[i] = m.of(l)
	}
	return out
}

// built is the circuit of a builder to which the gates of a circuit were told.
func built(b *Builder, c api.Circuit, m became) api.Circuit {
	out := api.Circuit{
		Max:         b.last(),
		Inputs:      m.all(c.Inputs),
		Latches:     make([]api.Latch, len(c.Latches)),
		Outputs:     m.all(c.Outputs),
		Bads:        m.all(c.Bads),
		Constraints: m.all(c.Constraints),
		Justice:     make([][]int, len(c.Justice)),
		Fairness:    m.all(c.Fairness),
		Ands:        b.Gates(),
		Symbols:     slices.Clone(c.Symbols),
		Comments:    slices.Clone(c.Comments),
	}
	for i, l := range c.Latches {
		// A reset of 0 or 1 stays so by the map, too.
		out.Latches[i] = api.Latch{Lit: m.of(l.Lit), Next: m.of(l.Next), Reset: m.of(l.Reset)}
	}
	for i, j := range c.Justice {
		out.Justice[i] = m.all(j)
	}
	return out
}
