package replay

import (
	"slices"

	"trestle/api"
	"trestle/sim"
)

// none stands where there is no place, and for no loop.
const none = -1

// ofFairness stands in a spot in place of a justice property's number.
const ofFairness = -1

// withoutLoop is a trace as a bad sees it: wherever its loop goes, that says nothing of whether it is a run.
func withoutLoop(t api.Trace) api.Trace {
	t.Loop = none
	return t
}

// watching is a right circuit that has, of all its properties, nothing but some literals as a justice property, and fairness: so layer 7 tells in which steps these are true, and nothing else. It has no symbols, since they may name what is not there.
func watching(c api.Circuit, literals, fairness []int) api.Circuit {
	return api.Circuit{
		Max: c.Max, Inputs: c.Inputs, Latches: c.Latches, Constraints: c.Constraints, Ands: c.Ands,
		Justice: [][]int{literals}, Fairness: fairness,
	}
}

// walk is a trace that was gone along and is a run.
type walk struct {
	c     api.Circuit
	t     api.Trace
	steps []api.Moment
	came  []bool // of each literal that is watched, fairness behind the others, whether it was true
}

// walkOf goes along a trace by a circuit that watches some literals, and sees which of these are true in some step from the given one on; or answers what is wrong with the trace as a run, and where.
func walkOf(c api.Circuit, t api.Trace, from int) (w walk, at int, e api.Errno) {
	steps, e := sim.Run(c, t)
	if e != api.OK {
		return walk{}, 0, e
	}
	if at := firstWrong(c, t.Init); at != none {
		return walk{}, at, api.ErrInit
	}
	w = walk{c: c, t: t, steps: steps, came: make([]bool, len(c.Justice[0])+len(c.Fairness))}
	broken := none
trace:
	for step, m := range steps {
		switch {
		case !m.Holds:
			broken = step
			break trace
		case step >= from:
			w.see(m)
		}
	}
	if broken != none {
		return walk{}, broken, api.ErrBroken
	}
	return w, 0, api.OK
}

// firstWrong is the number of the first latch that may not begin as it does, or none.
func firstWrong(c api.Circuit, first []bool) int {
	for i, l := range c.Latches {
		if l.Reset != l.Lit && first[i] != (l.Reset == 1) {
			return i
		}
	}
	return none
}

// see notes which literals are true in a step.
func (w walk) see(m api.Moment) {
	for _, s := range m.Fair {
		at := s.In
		if s.At == ofFairness {
			at += len(w.c.Justice[0])
		}
		w.came[at] = true
	}
}

// closes tells whether the trace has a loop, and its last step leads back to where that goes.
func (w walk) closes() bool {
	if w.t.Loop == none {
		return false
	}
	last := len(w.steps) - 1
	next, e := sim.Next(w.c, w.steps[last].State, w.t.Inputs[last])
	return e == api.OK && slices.Equal(next, w.steps[w.t.Loop].State)
}
