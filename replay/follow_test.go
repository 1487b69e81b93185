package replay_test

import (
	"math/rand"
	"slices"
	"testing"

	"trestle/api"
	"trestle/replay"
	"trestle/samples"
)

// isRun holds a trace against what a run is, step by step, and gives the values of each step, and the state behind the last one.
func isRun(t *testing.T, c api.Circuit, tr api.Trace) (values [][]bool, then []bool) {
	t.Helper()
	state := tr.Init
	for i, row := range tr.Inputs {
		s, e := samples.StepOf(c, state, row)
		if e != api.OK || i == 0 && !s.Starts || !s.Holds {
			t.Fatalf("%s: the step %d: %v, begins: %v, holds: %v", brief(c, tr), i, e, s.Starts, s.Holds)
		}
		values, state = append(values, s.Values), s.Next
	}
	return values, state
}

// cut is a trace that ends behind a step.
func cut(tr api.Trace, step int) api.Trace {
	tr.Inputs = tr.Inputs[:step+1]
	return tr
}

// 13.4: a trace that Bad takes is a run in whose last step the bad is true; cut behind any step it is taken just where that step reaches the bad, and missed else.
func TestTakenIsARun(t *testing.T) {
	r := rand.New(rand.NewSource(133))
	taken, again, missed := 0, 0, 0
	for range 10000 {
		c := samples.Circuit(r.Intn)
		tr := anyTrace(c, r)
		for i, l := range c.Bads {
			at, e := replay.Bad(c, i, tr)
			if e != api.OK {
				continue
			}
			taken++
			values, _ := isRun(t, c, tr)
			if at != len(tr.Inputs)-1 || !samples.Value(values[at], l) {
				t.Fatalf("%s: the bad %d: %d", brief(c, tr), i, at)
			}
			for step := range at {
				if samples.Value(values[step], l) {
					bad(t, c, i, cut(tr, step), step, api.OK)
					again++
				} else {
					bad(t, c, i, cut(tr, step), step, api.ErrMissed)
					missed++
				}
			}
		}
	}
	if min(taken, again, missed) < 1000 {
		t.Errorf("%d were taken, %d of what was cut, %d missed", taken, again, missed)
	}
}

// 13.4: each run whose last step reaches a bad is taken; of one that is cut behind its steps, Reached tells just the bads by which one of these is taken.
func TestRunsAreTaken(t *testing.T) {
	r := rand.New(rand.NewSource(134))
	whole := 0
	for range 3000 {
		c := samples.Circuit(r.Intn)
		tr := samples.Run(c, 1+r.Intn(8), r.Intn)
		if len(tr.Inputs) == 0 {
			doesNotFitAny(t, c, tr)
			continue
		}
		values, _ := isRun(t, c, tr)
		var all []int
		for i, l := range c.Bads {
			for step, v := range values {
				want := api.ErrMissed
				if samples.Value(v, l) {
					want = api.OK
					all = append(all, i)
				}
				bad(t, c, i, cut(tr, step), step, want)
			}
		}
		reached(t, c, tr, slices.Compact(all)...)
		if len(all) > 0 {
			whole++
		}
	}
	if whole < 500 {
		t.Errorf("%d runs that reach something", whole)
	}
}

// doesNotFitAny holds Reached of a trace without rows against ErrShape.
func doesNotFitAny(t *testing.T, c api.Circuit, tr api.Trace) {
	t.Helper()
	refuse(t, "no rows", some("Reached"), c, given{tr: tr}, api.ErrShape)
}

// unrolled is a lasso with its loop put behind it, as often as is told.
func unrolled(tr api.Trace, times int) api.Trace {
	loop := tr.Inputs[tr.Loop:]
	tr.Inputs = slices.Concat(tr.Inputs, slices.Repeat(loop, times))
	return tr
}

// 13.5: a lasso that Justice takes is a run that leads back to the step Loop, and in which all that must come comes from there on; unrolled once more it is taken with the same Loop, with Loop at the second round, and so is that.
func TestLassosUnrolled(t *testing.T) {
	r := rand.New(rand.NewSource(135))
	taken, late := 0, 0
	for range 20000 {
		c := samples.Circuit(r.Intn)
		tr := anyTrace(c, r)
		for j := range c.Justice {
			at, e := replay.Justice(c, j, tr)
			if e != api.OK {
				continue
			}
			taken++
			values, then := isRun(t, c, tr)
			state := tr.Init
			if at > 0 {
				late++
				_, state = isRun(t, c, cut(tr, at-1))
			}
			if at != tr.Loop || !slices.Equal(then, state) {
				t.Fatalf("%s: %d: back to %v, not to %v", brief(c, tr), at, then, state)
			}
			for _, l := range slices.Concat(c.Justice[j], c.Fairness) {
				if !slices.ContainsFunc(values[at:], func(v []bool) bool { return samples.Value(v, l) }) {
					t.Fatalf("%s: the justice %d: %d does not come", brief(c, tr), j, l)
				}
			}
			rounds(t, c, j, tr)
		}
	}
	if min(taken, late) < 1000 {
		t.Errorf("%d lassos were taken, %d that go back to a later step", taken, late)
	}
}

// rounds holds Justice of a lasso that it takes, unrolled, against the loops at each round.
func rounds(t *testing.T, c api.Circuit, j int, tr api.Trace) {
	t.Helper()
	round := len(tr.Inputs) - tr.Loop
	for times := range 3 {
		long := unrolled(tr, times)
		for k := range times + 1 {
			long.Loop = tr.Loop + k*round
			justice(t, c, j, long, long.Loop, api.OK)
		}
	}
}

// 13.5: unrolled up to as many steps as there may be, with each round as the loop; beyond that it does not fit.
func TestUnrolledToTheEnd(t *testing.T) {
	c := counting()
	c.Justice, c.Fairness = [][]int{{6, 8}, {3}}, []int{2, 5}
	for _, loop := range []int{0, 4, 8, 256, 504, 508} {
		for j := range 2 {
			justice(t, c, j, empty("00", api.MaxFrames, loop), loop, api.OK)
		}
	}
	half := empty("00", api.MaxFrames/2, 0)
	rounds(t, c, 0, cut(half, 3))
	justice(t, c, 0, unrolled(half, 1), 0, api.OK)
	second := unrolled(half, 1)
	second.Loop = api.MaxFrames / 2
	justice(t, c, 0, second, api.MaxFrames/2, api.OK)
	justice(t, c, 0, unrolled(half, 2), 0, api.ErrShape)
	whole := empty("00", api.MaxFrames, 508)
	justice(t, c, 0, unrolled(whole, 1), 0, api.ErrShape)
}

// allTraces is all traces of that many rows that fit a circuit, without a loop.
func allTraces(c api.Circuit, rows int) []api.Trace {
	var all []api.Trace
	for _, first := range samples.AllLists(len(c.Latches), false, true) {
		for _, inputs := range samples.AllLists(rows, samples.AllLists(len(c.Inputs), false, true)...) {
			all = append(all, api.Trace{Init: first, Inputs: inputs, Loop: -1})
		}
	}
	return all
}

// 13.4, W1: some trace of so many steps is taken for a bad just where it is reached at that depth, by all states.
func TestTakenWhereReached(t *testing.T) {
	r := rand.New(rand.NewSource(136))
	seen := map[bool]int{}
	for range 1000 {
		c := samples.Circuit(r.Intn)
		if len(c.Inputs) > 1 {
			continue
		}
		g := graphOf(t, c)
		for rows := 1; rows <= 3; rows++ {
			traces := allTraces(c, rows)
			for i, l := range c.Bads {
				got := slices.ContainsFunc(traces, func(tr api.Trace) bool {
					_, e := replay.Bad(c, i, tr)
					return e == api.OK
				})
				if want := g.Depths(l, rows)[rows-1]; got != want {
					t.Fatalf("%s: the bad %d at %d: %v, want %v", brief(c), i, rows-1, got, want)
				}
				seen[got]++
			}
		}
	}
	if min(seen[false], seen[true]) < 500 {
		t.Errorf("%v", seen)
	}
}

// 13.5, W2: a lasso is taken for a justice property only where that is broken, by all states; and where it is broken, some lasso of those by chance mostly is taken.
func TestTakenWhereBroken(t *testing.T) {
	r := rand.New(rand.NewSource(137))
	seen := map[[2]bool]int{}
	for range 1000 {
		c := samples.Circuit(r.Intn)
		g := graphOf(t, c)
		for j := range c.Justice {
			got, want := takesSome(c, j, r), g.Broken(slices.Concat(c.Justice[j], c.Fairness))
			if got && !want {
				t.Fatalf("%s: the justice %d is not broken", brief(c), j)
			}
			seen[[2]bool{got, want}]++
		}
	}
	if taken, safe, not := seen[[2]bool{true, true}], seen[[2]bool{false, false}], seen[[2]bool{false, true}]; min(taken, safe) < 200 || not > taken/20 {
		t.Errorf("%d were broken by a lasso that was taken, %d by none, %d were safe", taken, not, safe)
	}
}

// graphOf goes over all states and rows.
func graphOf(t *testing.T, c api.Circuit) samples.Graph {
	t.Helper()
	g, e := samples.GraphOf(c)
	if e != api.OK {
		t.Fatalf("%s: %v", brief(c), e)
	}
	return g
}

// takesSome tells whether some lasso by chance is taken for a justice property.
func takesSome(c api.Circuit, j int, r *rand.Rand) bool {
	for range 30 {
		tr := samples.Run(c, 1+r.Intn(16), r.Intn)
		for _, home := range samples.Homes(c, tr) {
			tr.Loop = home
			if _, e := replay.Justice(c, j, tr); e == api.OK {
				return true
			}
		}
	}
	return false
}
