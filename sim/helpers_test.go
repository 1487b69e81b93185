package sim_test

import (
	"slices"
	"testing"

	"trestle/api"
	"trestle/samples"
	"trestle/sim"
)

// rows is truths step by step.
func rows(all ...string) [][]bool {
	var out [][]bool
	for _, s := range all {
		out = append(out, samples.Bits(s))
	}
	return out
}

// allTruths is all lists of n truths.
func allTruths(n int) [][]bool { return samples.AllLists(n, false, true) }

// turning is the circuit T of the document: one latch that turns each step.
func turning() api.Circuit {
	return api.Circuit{Max: 1, Latches: []api.Latch{{Lit: 2, Next: 3}}, Bads: []int{2}}
}

// sameMoment tells whether two moments tell the same.
func sameMoment(a, b api.Moment) bool {
	return slices.Equal(a.State, b.State) && a.Holds == b.Holds && slices.Equal(a.Bads, b.Bads) && slices.Equal(a.Fair, b.Fair)
}

// sameMoments tells whether two runs tell the same.
func sameMoments(a, b []api.Moment) bool { return slices.EqualFunc(a, b, sameMoment) }

// values holds Values against what is wanted.
func values(t *testing.T, c api.Circuit, state, row, want []bool) {
	t.Helper()
	if got, e := sim.Values(c, state, row); e != api.OK || !slices.Equal(got, want) {
		t.Fatalf("Values of %+v in %v by %v: %v, %v, want %v", c, state, row, got, e, want)
	}
}

// next holds Next against what is wanted.
func next(t *testing.T, c api.Circuit, state, row, want []bool) {
	t.Helper()
	if got, e := sim.Next(c, state, row); e != api.OK || !slices.Equal(got, want) {
		t.Fatalf("Next of %+v in %v by %v: %v, %v, want %v", c, state, row, got, e, want)
	}
}

// holds holds Holds against what is wanted.
func holds(t *testing.T, c api.Circuit, state, row []bool, want bool) {
	t.Helper()
	if got, e := sim.Holds(c, state, row); e != api.OK || got != want {
		t.Fatalf("Holds of %+v in %v by %v: %v, %v, want %v", c, state, row, got, e, want)
	}
}

// starts holds Starts against what is wanted.
func starts(t *testing.T, c api.Circuit, state []bool, want bool) {
	t.Helper()
	if got, e := sim.Starts(c, state); e != api.OK || got != want {
		t.Fatalf("Starts of %+v in %v: %v, %v, want %v", c, state, got, e, want)
	}
}

// runs holds Run against what is wanted.
func runs(t *testing.T, c api.Circuit, tr api.Trace, want []api.Moment) {
	t.Helper()
	if got := run(t, c, tr); !sameMoments(got, want) {
		t.Fatalf("Run of %+v by %+v:\n%+v, want\n%+v", c, tr, got, want)
	}
}

// run is what Run tells of a trace that fits.
func run(t *testing.T, c api.Circuit, tr api.Trace) []api.Moment {
	t.Helper()
	got, e := sim.Run(c, tr)
	if e != api.OK {
		t.Fatalf("Run of %+v by %+v: %v", c, tr, e)
	}
	return got
}

// asWords holds all calls of a state and a row, and a run of that one row, against the document's words.
func asWords(t *testing.T, c api.Circuit, state, row []bool) {
	t.Helper()
	values(t, c, state, row, valuesOf(c, state, row))
	next(t, c, state, row, nextOf(c, state, row))
	holds(t, c, state, row, holdsOf(c, state, row))
	starts(t, c, state, startsOf(c, state))
	one := api.Trace{Init: state, Inputs: [][]bool{row}, Loop: -1}
	runs(t, c, one, []api.Moment{momentOf(c, state, row)})
}

// inAllSteps does asWords in all states by all input rows.
func inAllSteps(t *testing.T, c api.Circuit) {
	t.Helper()
	for _, state := range allTruths(len(c.Latches)) {
		for _, row := range allTruths(len(c.Inputs)) {
			asWords(t, c, state, row)
		}
	}
}

// refusal is what a call answered that had something wrong handed in.
type refusal struct {
	name    string
	e       api.Errno
	nothing bool // there is nothing beside the error
}

// stepCalls is the calls that take a state and a row.
func stepCalls(c api.Circuit, state, row []bool) []refusal {
	v, e := sim.Values(c, state, row)
	n, f := sim.Next(c, state, row)
	h, g := sim.Holds(c, state, row)
	return []refusal{{"Values", e, len(v) == 0}, {"Next", f, len(n) == 0}, {"Holds", g, !h}}
}

// startCall is the call that takes a state.
func startCall(c api.Circuit, state []bool) []refusal {
	s, e := sim.Starts(c, state)
	return []refusal{{"Starts", e, !s}}
}

// runCall is the call that takes a trace.
func runCall(c api.Circuit, tr api.Trace) []refusal {
	m, e := sim.Run(c, tr)
	return []refusal{{"Run", e, len(m) == 0}}
}

// refuse holds what calls answered against the error that is wanted.
func refuse(t *testing.T, what any, all []refusal, want api.Errno) {
	t.Helper()
	for _, r := range all {
		if r.e != want || !r.nothing {
			t.Errorf("%v: %s: %v (nothing beside it: %v), want %v", what, r.name, r.e, r.nothing, want)
		}
	}
}
