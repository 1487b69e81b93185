package samples

import (
	"cmp"
	"slices"

	"trestle/api"
	"trestle/sim"
)

// Value is that of a literal by values of variables.
func Value(values []bool, l int) bool { return values[l/2] == (l%2 == 0) }

// Step is what layer 7 tells of a state and an input row.
type Step struct {
	Values, Next  []bool
	Holds, Starts bool
}

// StepOf asks layer 7 of a right circuit, and of a state and a row that fit it; of others it answers the first error.
func StepOf(c api.Circuit, state, row []bool) (Step, api.Errno) {
	v, e := sim.Values(c, state, row)
	n, f := sim.Next(c, state, row)
	h, g := sim.Holds(c, state, row)
	s, k := sim.Starts(c, state)
	return Step{v, n, h, s}, cmp.Or(e, f, g, k)
}

// Began is a trace whose first state may begin, with the trace's values where the circuit leaves them free.
func Began(c api.Circuit, t api.Trace) api.Trace {
	t.Init = slices.Clone(t.Init)
	for i, l := range c.Latches {
		if l.Reset != l.Lit {
			t.Init[i] = l.Reset == 1
		}
	}
	return t
}

// Edge is a step that holds: from a state, by its number, to the next one, and the values of all variables in it.
type Edge struct {
	From, To int
	Values   []bool
}

// Graph is all steps of a circuit that hold, and of each state, by its number, whether it may begin.
type Graph struct {
	Begins []bool
	Edges  []Edge
}

// GraphOf goes over all states and rows of a right circuit.
func GraphOf(c api.Circuit) (Graph, api.Errno) {
	states := AllLists(len(c.Latches), false, true)
	g := Graph{Begins: make([]bool, len(states))}
	for i, state := range states {
		for _, row := range AllLists(len(c.Inputs), false, true) {
			s, e := StepOf(c, state, row)
			if e != api.OK {
				return Graph{}, e
			}
			g.Begins[i] = s.Starts
			if s.Holds {
				to := slices.IndexFunc(states, func(next []bool) bool { return slices.Equal(next, s.Next) })
				g.Edges = append(g.Edges, Edge{i, to, s.Values})
			}
		}
	}
	return g, api.OK
}

// Depths tells of each depth, below most, whether a bad's literal is reached at it.
func (g Graph) Depths(l, most int) []bool {
	out := make([]bool, most)
	now := g.Begins
	for depth := range most {
		next := make([]bool, len(now))
		for _, e := range g.Edges {
			if now[e.From] {
				out[depth] = out[depth] || Value(e.Values, l)
				next[e.To] = true
			}
		}
		now = next
	}
	return out
}

// Broken tells whether there is a lasso in whose loop each of these literals is true in some step: round a state that is reached all steps may come that lead away from it and back.
func (g Graph) Broken(must []int) bool {
	leads := g.leads()
	for home := range g.Begins {
		reached := false
		for i, is := range g.Begins {
			reached = reached || is && leads[i][home]
		}
		var round []Edge
		for _, e := range g.Edges {
			if leads[home][e.From] && leads[e.To][home] {
				round = append(round, e)
			}
		}
		all := reached && len(round) > 0
		for _, l := range must {
			all = all && slices.ContainsFunc(round, func(e Edge) bool { return Value(e.Values, l) })
		}
		if all {
			return true
		}
	}
	return false
}

// leads tells of each two states whether steps lead from the one to the other one; of one state they may be none.
func (g Graph) leads() [][]bool {
	out := make([][]bool, len(g.Begins))
	for i := range out {
		out[i] = make([]bool, len(g.Begins))
		out[i][i] = true
	}
	for changed := true; changed; {
		changed = false
		for _, e := range g.Edges {
			for i := range out {
				if out[i][e.From] && !out[i][e.To] {
					out[i][e.To], changed = true, true
				}
			}
		}
	}
	return out
}
