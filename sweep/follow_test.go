package sweep_test

import (
	"math/rand"
	"slices"
	"testing"

	"trestle/api"
	"trestle/hash"
	"trestle/samples"
	"trestle/shape"
	"trestle/sim"
)

// stepOf asks layer 7.
func stepOf(t *testing.T, c api.Circuit, state, row []bool) samples.Step {
	t.Helper()
	s, e := samples.StepOf(c, state, row)
	if e != api.OK {
		t.Fatalf("%s: %v", brief(c, state, row), e)
	}
	return s
}

// momentsOf is what layer 7 tells of a trace.
func momentsOf(t *testing.T, c api.Circuit, tr api.Trace) []api.Moment {
	t.Helper()
	m, e := sim.Run(c, tr)
	if e != api.OK {
		t.Fatalf("%s: %v", brief(c, tr), e)
	}
	return m
}

// sameSteps holds a trace of what a circuit is swept to against what came of it, step by step, from a first state that may begin; it tells whether all steps hold, and whether the last one leads back to the loop.
func sameSteps(t *testing.T, c, n api.Circuit, m []int, tr, back api.Trace) (holds, closed bool) {
	t.Helper()
	few, all := momentsOf(t, n, tr), momentsOf(t, c, back)
	holds = true
	for i, x := range few {
		was := all[i]
		s, then := stepOf(t, c, was.State, back.Inputs[i]), stepOf(t, n, x.State, tr.Inputs[i])
		for v, l := range m {
			if s.Values[v] != samples.Value(then.Values, l) {
				t.Fatalf("%s: the step %d: the variable %d is %v, it has become %d in %s", brief(c, back), i, v, s.Values[v], l, brief(n, tr))
			}
		}
		if i == 0 && !s.Starts || x.Holds != was.Holds || !slices.Equal(x.Bads, was.Bads) || !slices.Equal(x.Fair, was.Fair) {
			t.Fatalf("%s: the step %d: %s, begins: %v, want %s", brief(c, back), i, brief(was), s.Starts, brief(x))
		}
		holds = holds && x.Holds
		if i == len(few)-1 && tr.Loop >= 0 {
			closed = slices.Equal(then.Next, few[tr.Loop].State)
			if closed != slices.Equal(s.Next, all[tr.Loop].State) {
				t.Fatalf("%s: goes from %v to %v, swept from %v to %v", brief(c, back), s.Next, all[tr.Loop].State, then.Next, few[tr.Loop].State)
			}
		}
	}
	return holds, closed
}

// 11.3: a run of what is swept, taken back, is a run: it begins as it may, and in each step each variable has the value of the literal that it has become, so that it holds, and properties are broken, as there; a lasso closes just where it does there.
func TestRunsTakenBack(t *testing.T) {
	r := rand.New(rand.NewSource(116))
	runs, lassos, less := 0, 0, 0
	for range 10000 {
		c := doubled(samples.Circuit(r.Intn), r)
		n, m := swept(t, c)
		tr := samples.Began(n, samples.Trace(n, 1+r.Intn(5), r.Intn))
		holds, closed := sameSteps(t, c, n, m, tr, traceBy(t, c, tr))
		if holds {
			runs++
		}
		if holds && closed {
			lassos++
		}
		if len(n.Latches) < len(c.Latches) {
			less++
		}
	}
	if min(runs, less) < 2000 || lassos < 500 {
		t.Errorf("%d runs, %d lassos, %d circuits of which latches were left away", runs, lassos, less)
	}
}

// graphOf goes over all states and rows.
func graphOf(t *testing.T, c api.Circuit) samples.Graph {
	t.Helper()
	g, e := samples.GraphOf(c)
	if e != api.OK {
		t.Fatalf("%s: %v", brief(c), e)
	}
	return g
}

// 11.3: a bad is reached at just the same depths, a justice property is broken just where it was.
func TestPropertiesAreTheSame(t *testing.T) {
	const depths = 20
	r := rand.New(rand.NewSource(117))
	seen := map[[2]bool]int{}
	for range 600 {
		c := doubled(samples.Circuit(r.Intn), r)
		n, _ := swept(t, c)
		if len(c.Latches) > 5 || len(n.Latches) == len(c.Latches) {
			continue
		}
		was, is := graphOf(t, c), graphOf(t, n)
		for i, l := range c.Bads {
			before, now := was.Depths(l, depths), is.Depths(n.Bads[i], depths)
			if !slices.Equal(before, now) {
				t.Fatalf("%s: the bad %d is reached at %v, swept at %v", brief(c), i, before, now)
			}
			seen[[2]bool{true, slices.Contains(now, true)}]++
		}
		for i, j := range c.Justice {
			before, now := was.Broken(slices.Concat(j, c.Fairness)), is.Broken(slices.Concat(n.Justice[i], n.Fairness))
			if before != now {
				t.Fatalf("%s: the justice %d is broken: %v, swept: %v", brief(c), i, before, now)
			}
			seen[[2]bool{false, now}]++
		}
	}
	for _, k := range [][2]bool{{true, true}, {true, false}, {false, true}, {false, false}} {
		if seen[k] < 50 {
			t.Errorf("%v: but %d times", k, seen[k])
		}
	}
}

// 11.3: in each run of the circuit, too, each variable has in each step the value of the literal that it has become, by the run of what is swept whose latches begin as those do that stayed.
func TestRunsAreThere(t *testing.T) {
	r := rand.New(rand.NewSource(118))
	for range 5000 {
		c := doubled(samples.Circuit(r.Intn), r)
		n, m := swept(t, c)
		whole := samples.Began(c, samples.Trace(c, 1+r.Intn(5), r.Intn))
		tr := api.Trace{Init: make([]bool, len(n.Latches)), Inputs: whole.Inputs, Loop: whole.Loop}
		for i, l := range c.Latches {
			for k, stays := range n.Latches {
				if m[l.Lit/2] == stays.Lit {
					tr.Init[k] = whole.Init[i]
				}
			}
		}
		if back := traceBy(t, c, tr); !samples.SameTrace(back, whole) {
			t.Fatalf("%s: %s, taken back %s", brief(c), brief(whole), brief(back))
		}
		sameSteps(t, c, n, m, tr, whole)
	}
}

// 11.4: what is swept is right, has the binary order, the same inputs, and no more latches and gates; swept, or built, again it is the same, and traces of it are taken back as they are.
func TestSweptAgain(t *testing.T) {
	r := rand.New(rand.NewSource(119))
	less := 0
	for i := range 6000 {
		c := tall(r)
		if i%2 == 0 {
			c = samples.Circuit(r.Intn)
		}
		c = doubled(c, r)
		n, m := swept(t, c)
		if at, e := shape.Check(n); e != api.OK {
			t.Fatalf("%s: %s: %d, %v", brief(c), brief(n), at, e)
		}
		if binary, e := shape.IsBinary(n); !binary || e != api.OK || len(n.Inputs) != len(c.Inputs) || len(n.Latches) > len(c.Latches) || len(n.Ands) > len(c.Ands) {
			t.Fatalf("%s: %s", brief(c), brief(n))
		}
		if len(n.Latches) < len(c.Latches) && len(n.Ands) < len(c.Ands) {
			less++
		}
		sweeps(t, n, n, upTo(0, 2*n.Max)...)
		if built, _, e := hash.Build(n); e != api.OK || !shape.Same(built, n) {
			t.Fatalf("%s: built anew %s", brief(n), brief(built, e))
		}
		tr := samples.Trace(n, 1+r.Intn(3), r.Intn)
		goesBack(t, n, tr, tr)
		fewer(t, c, n, m)
	}
	if less < 1000 {
		t.Errorf("%d have less latches and gates", less)
	}
}

// fewer holds what variables have become against what they were: of each latch 0, 1, or the literal of a latch that begins as it does; an input is the input of its number, and each literal is one of what is swept.
func fewer(t *testing.T, c, n api.Circuit, m []int) {
	t.Helper()
	for v, l := range m {
		if l < 0 || l > 2*n.Max+1 || v == 0 && l != 0 {
			t.Fatalf("%s: %v", brief(c), m)
		}
	}
	for i, l := range c.Inputs {
		if m[l/2] != n.Inputs[i] {
			t.Fatalf("%s: the input %d: %v", brief(c), i, m)
		}
	}
	for i, l := range c.Latches {
		to := m[l.Lit/2]
		at := slices.IndexFunc(n.Latches, func(x api.Latch) bool { return x.Lit == to })
		switch {
		case to < 2 && to == l.Reset:
		case at >= 0 && l.Reset == l.Lit && n.Latches[at].Reset == to:
		case at >= 0 && l.Reset < 2 && n.Latches[at].Reset == l.Reset:
		default:
			t.Fatalf("%s: the latch %d: %v", brief(c), i, m)
		}
	}
}

// 11.3: renumbered ahead, in the order that it has, a circuit is swept to the same.
func TestSweptBehindRenumber(t *testing.T) {
	r := rand.New(rand.NewSource(120))
	for range 3000 {
		c := doubled(samples.Circuit(r.Intn), r)
		n, m := swept(t, c)
		other, first, e := shape.Renumber(c)
		if e != api.OK {
			t.Fatalf("%s: %v", brief(c), e)
		}
		again, then := swept(t, other)
		if !shape.Same(again, n) {
			t.Fatalf("%s: %s, renumbered %s", brief(c), brief(n), brief(again))
		}
		for v, l := range first {
			if l > 0 && then[l/2] != m[v] {
				t.Fatalf("%s: the variable %d has become %d, renumbered %d", brief(c), v, m[v], then[l/2])
			}
		}
	}
}
