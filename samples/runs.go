package samples

import (
	"slices"

	"trestle/api"
	"trestle/sim"
)

// Run is a run of a right circuit of so many steps (Loop -1), or of fewer, or none, if it comes to a state in which no step holds. Its first state and its rows are as pick says.
func Run(c api.Circuit, steps int, pick func(n int) int) api.Trace {
	t := Began(c, Trace(c, 0, pick))
	state := t.Init
	rows := AllLists(len(c.Inputs), false, true)
	for range steps {
		shuffle(pick, rows)
		at := slices.IndexFunc(rows, func(row []bool) bool {
			holds, e := sim.Holds(c, state, row)
			return holds && e == api.OK
		})
		if at < 0 {
			return t
		}
		t.Inputs = append(t.Inputs, slices.Clone(rows[at]))
		state, _ = sim.Next(c, state, rows[at])
	}
	return t
}

// Homes is the steps of a trace that fits, to whose states its last step leads back: as its loop each one of them is closed.
func Homes(c api.Circuit, t api.Trace) []int {
	states := [][]bool{t.Init}
	for i, row := range t.Inputs {
		next, _ := sim.Next(c, states[i], row)
		states = append(states, next)
	}
	last := len(t.Inputs)
	var homes []int
	for i, state := range states[:last] {
		if slices.Equal(state, states[last]) {
			homes = append(homes, i)
		}
	}
	return homes
}
