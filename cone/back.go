package cone

import (
	"slices"

	"trestle/api"
)

// areNumbers tells whether a list is rising numbers of things of which there are so many.
func areNumbers(list []int, count int) bool {
	last := -1
	for _, i := range list {
		if i <= last || i >= count {
			return false
		}
		last = i
	}
	return true
}

// fits tells whether a trace has a first state and input rows that go with a cut. It may be of no step, and its loop is not looked at.
func fits(x api.Cut, t api.Trace) bool {
	if len(t.Init) != len(x.Latches) || len(t.Inputs) > api.MaxFrames {
		return false
	}
	for _, row := range t.Inputs {
		if len(row) != len(x.Inputs) {
			return false
		}
	}
	return true
}

// traceOf is a cut's trace in the circuit: what the cut has not begins as it may, and its inputs are false.
func traceOf(c api.Circuit, x api.Cut, t api.Trace) api.Trace {
	out := api.Trace{Init: make([]bool, len(c.Latches)), Inputs: make([][]bool, len(t.Inputs)), Loop: t.Loop}
	for i, l := range c.Latches {
		out.Init[i] = l.Reset == 1
	}
	put(out.Init, x.Latches, t.Init)
	for i, row := range t.Inputs {
		out.Inputs[i] = make([]bool, len(c.Inputs))
		put(out.Inputs[i], x.Inputs, row)
	}
	return out
}

// put writes truths over those that stand at their places.
func put(into []bool, places []int, truths []bool) {
	for i, at := range places {
		into[at] = truths[i]
	}
}

// origins gives of each variable of a cut that of the circuit from which it comes, or none.
type origins []int

// originsOf goes back from the literals that a circuit's variables are in a cut; ok tells whether they may be such, of a circuit of that greatest variable.
func originsOf(lits []int, most int) (from origins, ok bool) {
	if len(lits) != most+1 {
		return nil, false
	}
	from = slices.Repeat([]int{none}, api.MaxVar+1)
	for v, l := range lits {
		switch {
		case l == none || l == 0:
		case l < 0 || l%2 == 1 || l > 2*api.MaxVar || from[l/2] != none:
			return nil, false
		default:
			from[l/2] = v
		}
	}
	return from, true
}

// lemmaOf is a cut's lemma in the circuit. Of 0 and 1 nothing comes.
func lemmaOf(from origins, l api.Lemma) (api.Lemma, api.Errno) {
	out := make(api.Lemma, len(l))
	for i, k := range l {
		if k < 0 || k/2 >= len(from) || from[k/2] == none {
			return nil, api.ErrNone
		}
		out[i] = 2*from[k/2] + k%2
	}
	return out, api.OK
}
