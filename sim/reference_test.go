package sim_test

import "trestle/api"

// valueOf is the value of a literal by the document's words: what defines its variable says it.
func valueOf(c api.Circuit, state, row []bool, l int) bool {
	value := false
	for i, in := range c.Inputs {
		if l/2 == in/2 {
			value = row[i]
		}
	}
	for i, latch := range c.Latches {
		if l/2 == latch.Lit/2 {
			value = state[i]
		}
	}
	for _, g := range c.Ands {
		if l/2 == g.Out/2 {
			value = valueOf(c, state, row, g.Left) && valueOf(c, state, row, g.Right)
		}
	}
	if l%2 == 1 {
		return !value
	}
	return value
}

// valuesOf is the values of all variables by the document's words.
func valuesOf(c api.Circuit, state, row []bool) []bool {
	var out []bool
	for v := 0; v <= c.Max; v++ {
		out = append(out, valueOf(c, state, row, 2*v))
	}
	return out
}

// nextOf is the next state by the document's words.
func nextOf(c api.Circuit, state, row []bool) []bool {
	var out []bool
	for _, l := range c.Latches {
		out = append(out, valueOf(c, state, row, l.Next))
	}
	return out
}

// holdsOf tells by the document's words whether a step holds: no constraint is false.
func holdsOf(c api.Circuit, state, row []bool) bool {
	broken := 0
	for _, l := range c.Constraints {
		if !valueOf(c, state, row, l) {
			broken++
		}
	}
	return broken == 0
}

// startsOf tells by the document's words whether a state may begin.
func startsOf(c api.Circuit, state []bool) bool {
	wrong := 0
	for i, l := range c.Latches {
		if l.Reset == 0 && state[i] || l.Reset == 1 && !state[i] {
			wrong++
		}
	}
	return wrong == 0
}

// momentOf is a moment by the chapter's words.
func momentOf(c api.Circuit, state, row []bool) api.Moment {
	m := api.Moment{State: state, Holds: holdsOf(c, state, row)}
	for i, l := range c.Bads {
		if valueOf(c, state, row, l) {
			m.Bads = append(m.Bads, i)
		}
	}
	for at, j := range c.Justice {
		for in, l := range j {
			if valueOf(c, state, row, l) {
				m.Fair = append(m.Fair, api.Spot{At: at, In: in})
			}
		}
	}
	for in, l := range c.Fairness {
		if valueOf(c, state, row, l) {
			m.Fair = append(m.Fair, api.Spot{At: -1, In: in})
		}
	}
	return m
}

// runOf is the moments of a trace by the chapter's words.
func runOf(c api.Circuit, t api.Trace) []api.Moment {
	var out []api.Moment
	state := t.Init
	for _, row := range t.Inputs {
		out = append(out, momentOf(c, state, row))
		state = nextOf(c, state, row)
	}
	return out
}
