package cone_test

import (
	"math/rand"
	"slices"
	"testing"

	"trestle/api"
	"trestle/cone"
	"trestle/samples"
	"trestle/shape"
	"trestle/sim"
)

// momentsOf is what layer 7 tells of a trace.
func momentsOf(t *testing.T, c api.Circuit, tr api.Trace) []api.Moment {
	t.Helper()
	m, e := sim.Run(c, tr)
	if e != api.OK {
		t.Fatalf("%s: %v", brief(c, tr), e)
	}
	return m
}

// startsBy is whether a state may begin.
func startsBy(t *testing.T, c api.Circuit, state []bool) bool {
	t.Helper()
	is, e := sim.Starts(c, state)
	if e != api.OK {
		t.Fatalf("%s: %v", brief(c, state), e)
	}
	return is
}

// valuesBy is the values of all variables.
func valuesBy(t *testing.T, c api.Circuit, state, row []bool) []bool {
	t.Helper()
	v, e := sim.Values(c, state, row)
	if e != api.OK {
		t.Fatalf("%s: %v", brief(c, state, row), e)
	}
	return v
}

// nextBy is the next state of a step, and whether that holds.
func nextBy(t *testing.T, c api.Circuit, state, row []bool) ([]bool, bool) {
	t.Helper()
	next, e := sim.Next(c, state, row)
	holds, f := sim.Holds(c, state, row)
	if e != api.OK || f != api.OK {
		t.Fatalf("%s: %v, %v", brief(c, state, row), e, f)
	}
	return next, holds
}

// spotsOf is where literals of a justice property, told as that of the number 0, and of fairness are true.
func spotsOf(m api.Moment, at int) []api.Spot {
	var out []api.Spot
	for _, s := range m.Fair {
		if s.At == at {
			s.At = 0
		} else if s.At >= 0 {
			continue
		}
		out = append(out, s)
	}
	return out
}

// chosen is those of truths that have these numbers.
func chosen(truths []bool, numbers []int) []bool {
	var out []bool
	for _, i := range numbers {
		out = append(out, truths[i])
	}
	return out
}

// sameSteps holds a trace of a cut against what came of it in the circuit, step by step; it tells whether the trace is a run.
func sameSteps(t *testing.T, c api.Circuit, p api.Prop, x api.Cut, tr, back api.Trace) bool {
	t.Helper()
	is := startsBy(t, x.C, tr.Init)
	if is != startsBy(t, c, back.Init) {
		t.Fatalf("%s: %v begins, %v does not", brief(c, p), tr.Init, back.Init)
	}
	few, all := momentsOf(t, x.C, tr), momentsOf(t, c, back)
	for i, m := range few {
		was := all[i]
		is = is && m.Holds
		if !slices.Equal(m.State, chosen(was.State, x.Latches)) || m.Holds != was.Holds {
			t.Fatalf("%s: the step %d of %+v: %+v, of %+v: %+v", brief(c, p), i, tr, m, back, was)
		}
		if p.Kind == 'b' && (len(m.Bads) == 1) != slices.Contains(was.Bads, p.At) {
			t.Fatalf("%s: the step %d of %+v: bads %v, of %+v: %v", brief(c, p), i, tr, m.Bads, back, was.Bads)
		}
		if p.Kind == 'j' && !slices.Equal(spotsOf(m, 0), spotsOf(was, p.At)) {
			t.Fatalf("%s: the step %d of %+v: %v, of %+v: %v", brief(c, p), i, tr, m.Fair, back, was.Fair)
		}
	}
	return is
}

// 10.4: a trace of the cut, taken back, begins where that one may begin, and in each step the latches, the constraints and the property's literals, of justice also fairness, are as they are in the cut: so of a run there comes a run.
func TestRunsTakenBack(t *testing.T) {
	r := rand.New(rand.NewSource(111))
	runs, none := 0, 0
	for range 4000 {
		c := sparse(r)
		for _, p := range propsOf(c) {
			x := cutBy(t, c, p)
			tr := samples.Trace(x.C, 1+r.Intn(6), r.Intn)
			if r.Intn(2) == 0 {
				tr = samples.Began(x.C, tr)
			}
			if sameSteps(t, c, p, x, tr, traceBy(t, c, x, tr)) {
				runs++
			} else {
				none++
			}
		}
	}
	if min(runs, none) < 1000 {
		t.Errorf("%d runs, %d others", runs, none)
	}
}

// behind is the state behind a trace's last step, and that of its loop.
func behind(t *testing.T, c api.Circuit, tr api.Trace) (last, loop []bool) {
	t.Helper()
	m := momentsOf(t, c, tr)
	last, _ = nextBy(t, c, m[len(m)-1].State, tr.Inputs[len(m)-1])
	return last, m[tr.Loop].State
}

// 10.4: a lasso of a justice property's cut, taken back, closes in the circuit, too, and one that does not close there does not close.
func TestLassosTakenBack(t *testing.T) {
	r := rand.New(rand.NewSource(112))
	closed, open := 0, 0
	for range 4000 {
		c := sparse(r)
		for i := range c.Justice {
			x := cutBy(t, c, justice(i))
			tr := samples.Trace(x.C, 1+r.Intn(4), r.Intn)
			tr.Loop = max(0, tr.Loop)
			back := traceBy(t, c, x, tr)
			last, loop := behind(t, x.C, tr)
			wasLast, wasLoop := behind(t, c, back)
			if slices.Equal(last, loop) != slices.Equal(wasLast, wasLoop) || back.Loop != tr.Loop {
				t.Fatalf("%s: %+v goes from %v to %v, %+v from %v to %v", brief(c, i), tr, last, loop, back, wasLast, wasLoop)
			}
			if slices.Equal(last, loop) {
				closed++
			} else {
				open++
			}
		}
	}
	if min(closed, open) < 500 {
		t.Errorf("%d lassos closed, %d open", closed, open)
	}
}

// 10.4: in each state, by each row of the circuit, the variables of the cone have the values that their literals have in the cut, by what is there of the state and the row; the next state and what begins likewise. A lemma of the cut, taken back, is fulfilled just where it is there.
func TestValuesAreTheSame(t *testing.T) {
	r := rand.New(rand.NewSource(113))
	for range 400 {
		c := sparse(r)
		for _, p := range propsOf(c) {
			x := cutBy(t, c, p)
			lemma := []int{}
			for _, l := range x.C.Latches {
				if r.Intn(2) == 0 {
					lemma = append(lemma, l.Lit+r.Intn(2))
				}
			}
			taken, e := cone.Lemma(c, x, lemma)
			if e != api.OK {
				t.Fatalf("%s: %v", brief(c, p, lemma), e)
			}
			for _, state := range samples.AllLists(len(c.Latches), false, true) {
				few := chosen(state, x.Latches)
				if startsBy(t, c, state) && !startsBy(t, x.C, few) {
					t.Fatalf("%s: %v begins, %v does not", brief(c, p), state, few)
				}
				for _, row := range samples.AllLists(len(c.Inputs), false, true) {
					sameValues(t, c, x, state, row)
					v, w := valuesBy(t, c, state, row), valuesBy(t, x.C, few, chosen(row, x.Inputs))
					if slices.ContainsFunc(lemma, func(l int) bool { return samples.Value(w, l) }) != slices.ContainsFunc(taken, func(l int) bool { return samples.Value(v, l) }) {
						t.Fatalf("%s: the lemma %v, taken back %v, in %v by %v", brief(c, p), lemma, taken, state, row)
					}
				}
			}
		}
	}
}

// sameValues holds the values of a circuit, in a state by a row, against those of a cut of it.
func sameValues(t *testing.T, c api.Circuit, x api.Cut, state, row []bool) {
	t.Helper()
	few, part := chosen(state, x.Latches), chosen(row, x.Inputs)
	v, w := valuesBy(t, c, state, row), valuesBy(t, x.C, few, part)
	for i, l := range x.Lits {
		if l >= 0 && v[i] != samples.Value(w, l) {
			t.Fatalf("%s: the variable %d, in the cut %d, in %v by %v", brief(c, x), i, l, state, row)
		}
	}
	next, holds := nextBy(t, c, state, row)
	then, also := nextBy(t, x.C, few, part)
	if !slices.Equal(chosen(next, x.Latches), then) || holds != also {
		t.Fatalf("%s: in %v by %v: %v, %v, of the cut: %v, %v", brief(c, x), state, row, next, holds, then, also)
	}
}

// graphOf goes over all states and rows.
func graphOf(t *testing.T, c api.Circuit) samples.Graph {
	t.Helper()
	g, e := samples.GraphOf(c)
	if e != api.OK {
		t.Fatalf("%s: %v", brief(c), e)
	}
	return g
}

// 10.4: the cut's bad is reached at just the depths at which the circuit's is; its justice property is broken just where the circuit's is.
func TestPropertiesAreTheSame(t *testing.T) {
	const most = 12
	r := rand.New(rand.NewSource(114))
	seen := map[[2]bool]int{}
	for range 600 {
		c := sparse(r)
		whole := graphOf(t, c)
		for _, p := range propsOf(c) {
			x := cutBy(t, c, p)
			part := graphOf(t, x.C)
			if p.Kind == 'b' {
				was, is := whole.Depths(c.Bads[p.At], most), part.Depths(x.C.Bads[0], most)
				if !slices.Equal(was, is) {
					t.Fatalf("%s: reached at %v, in the cut at %v", brief(c, p), was, is)
				}
				seen[[2]bool{true, slices.Contains(is, true)}]++
				continue
			}
			was := whole.Broken(slices.Concat(c.Justice[p.At], c.Fairness))
			if is := part.Broken(slices.Concat(x.C.Justice[0], x.C.Fairness)); is != was {
				t.Fatalf("%s: broken: %v, in the cut: %v", brief(c, p), was, is)
			}
			seen[[2]bool{false, was}]++
		}
	}
	for _, k := range [][2]bool{{true, true}, {true, false}, {false, true}, {false, false}} {
		if seen[k] < 100 {
			t.Errorf("%v: but %d times", k, seen[k])
		}
	}
}

// 10.4: a cone has its roots' variables, and with a variable all on which that hangs; each of its variables is a root's, or one that another one of them uses, by a way that comes from a root.
func TestCones(t *testing.T) {
	r := rand.New(rand.NewSource(115))
	for range 2000 {
		c := sparse(r)
		for _, p := range propsOf(c) {
			x := cutBy(t, c, p)
			roots := rootsOf(c, p)
			for _, l := range roots {
				if x.Lits[l/2] < 0 {
					t.Fatalf("%s: the root %d is not in the cone: %v", brief(c, p), l, x.Lits)
				}
			}
			from := make([]bool, c.Max+1)
			for _, l := range roots {
				hungOn, _ := cone.Support(c, []int{l})
				for v, is := range hungOn {
					from[v] = from[v] || is
				}
			}
			for v, l := range x.Lits[1:] {
				v++
				if (l >= 0) != from[v] {
					t.Fatalf("%s: the variable %d is %d in the cut, hung on: %v", brief(c, p), v, l, from[v])
				}
				on, _ := cone.Support(c, []int{2 * v})
				for w, is := range on {
					if l >= 0 && is && x.Lits[w] < 0 {
						t.Fatalf("%s: the variable %d is in the cone, %d, on which it hangs, is not", brief(c, p), v, w)
					}
				}
			}
		}
	}
}

// 10.4: what hangs on something hangs on itself, and on all on which that hangs; without any one of the variables that are told it would not be so.
func TestSupportIsClosed(t *testing.T) {
	r := rand.New(rand.NewSource(116))
	for range 1500 {
		c := samples.Circuit(r.Intn)
		lits := samples.SomeLiterals(c, r.Intn)
		on, _ := cone.Support(c, lits)
		var all []int
		for v, is := range on {
			if is {
				all = append(all, 2*v+r.Intn(2))
			}
		}
		again, _ := cone.Support(c, all)
		if !slices.Equal(on, again) || on[0] {
			t.Fatalf("%s: %v, of these %v", brief(c, lits), on, again)
		}
		inStep, _ := cone.Inputs(c, lits)
		for _, i := range inStep {
			if !on[c.Inputs[i]/2] {
				t.Fatalf("%s: the input %d within one step, in all: %v", brief(c, lits), i, on)
			}
		}
		for v := range on {
			if on[v] && !needed(c, lits, v) {
				t.Fatalf("%s: %v, %d could be left away", brief(c, lits), on, v)
			}
		}
	}
}

// needed tells whether a variable is found by going along what things use, one after the other, from some literals on.
func needed(c api.Circuit, lits []int, v int) bool {
	seen := map[int]bool{}
	var along func(l int)
	along = func(l int) {
		if seen[l/2] {
			return
		}
		seen[l/2] = true
		for _, g := range c.Ands {
			if g.Out/2 == l/2 {
				along(g.Left)
				along(g.Right)
			}
		}
		for _, x := range c.Latches {
			if x.Lit/2 == l/2 {
				along(x.Next)
			}
		}
	}
	for _, l := range lits {
		along(l)
	}
	return seen[v]
}

// 10.4: a cut is right, and has no more than it needs: cut again, it is all there, as it was.
func TestCutAgain(t *testing.T) {
	r := rand.New(rand.NewSource(117))
	for range 2000 {
		c := sparse(r)
		for _, p := range propsOf(c) {
			x := cutBy(t, c, p)
			if at, e := shape.Check(x.C); e != api.OK {
				t.Fatalf("%s: %s: %d, %v", brief(c, p), brief(x), at, e)
			}
			cuts(t, x.C, api.Prop{Kind: p.Kind}, allOf(x.C))
		}
	}
}

// 10.4: a circuit that is renumbered ahead has the same cones: the new literals go with them.
func TestConesOfRenumbered(t *testing.T) {
	r := rand.New(rand.NewSource(118))
	for range 2000 {
		c := sparse(r)
		n, m, e := shape.Renumber(c)
		if e != api.OK {
			t.Fatalf("%s: %v", brief(c), e)
		}
		for _, p := range propsOf(c) {
			x, y := cutBy(t, c, p), cutBy(t, n, p)
			if !slices.Equal(x.Inputs, y.Inputs) || !slices.Equal(x.Latches, y.Latches) || x.C.Max != y.C.Max {
				t.Fatalf("%s: %s, renumbered %s", brief(c, p), brief(x), brief(y))
			}
			for v, l := range m {
				if l > 0 && (x.Lits[v] < 0) != (y.Lits[l/2] < 0) {
					t.Fatalf("%s: the variable %d: %d, renumbered %d", brief(c, p), v, x.Lits[v], y.Lits[l/2])
				}
			}
		}
	}
}
