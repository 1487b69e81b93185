package frames_test

import (
	"math/rand"
	"slices"
	"testing"

	"trestle/api"
	"trestle/cnf"
	"trestle/frames"
	"trestle/samples"
)

// graphOf is all steps of a circuit that hold.
func graphOf(t *testing.T, c api.Circuit) samples.Graph {
	t.Helper()
	g, e := samples.GraphOf(c)
	if e != api.OK {
		t.Fatalf("%s: %v", brief(c), e)
	}
	return g
}

// pathsOf is all runs of so many steps, told as the steps of the circuit that come in them.
func pathsOf(g samples.Graph, steps int) [][]samples.Edge {
	paths := [][]samples.Edge{{}}
	for range steps {
		var longer [][]samples.Edge
		for _, path := range paths {
			for _, e := range g.Edges {
				n := len(path)
				if n == 0 && g.Begins[e.From] || n > 0 && path[n-1].To == e.From {
					longer = append(longer, append(slices.Clone(path), e))
				}
			}
		}
		paths = longer
	}
	return paths
}

// countOf is how many runs of so many steps there are.
func countOf(g samples.Graph, steps int) int {
	now := make([]int, len(g.Begins))
	for i, is := range g.Begins {
		if is {
			now[i] = 1
		}
	}
	for range steps {
		next := make([]int, len(now))
		for _, e := range g.Edges {
			next[e.To] += now[e.From]
		}
		now = next
	}
	sum := 0
	for _, n := range now {
		sum += n
	}
	return sum
}

// runOfPath is the run that has these steps, and the values of all variables in it, as the formula has them.
func runOfPath(c api.Circuit, path []samples.Edge) (tr api.Trace, model []bool) {
	tr, model = api.Trace{Loop: -1}, samples.Bits("0")
	for _, l := range c.Latches {
		tr.Init = append(tr.Init, path[0].Values[l.Lit/2])
	}
	for _, e := range path {
		var row []bool
		for _, l := range c.Inputs {
			row = append(row, e.Values[l/2])
		}
		tr.Inputs = append(tr.Inputs, row)
		model = append(model, e.Values[1:]...)
	}
	return tr, model
}

// looseIn is where, in a model of so many steps, the variables stand that nothing defines.
func looseIn(c api.Circuit, steps int) []int {
	var all []int
	for step := range steps {
		for _, l := range looseOf(c) {
			all = append(all, at(c, l, step)-1)
		}
	}
	return all
}

// sayAll holds all models of the formula of so many steps, tried one by one, against the circuit's runs: each run is told by one model for each list of truths of the variables that nothing defines, and no other model is there; it is Model of the run, but for these, and Trace of it the run.
func sayAll(t *testing.T, c api.Circuit, steps int) {
	t.Helper()
	loose := looseIn(c, steps)
	var want [][]bool
	for _, path := range pathsOf(graphOf(t, c), steps) {
		tr, model := runOfPath(c, path)
		isModel(t, c, tr, model)
		for _, truths := range samples.AllLists(len(loose), false, true) {
			also := slices.Clone(model)
			for i, where := range loose {
				also[where] = truths[i]
			}
			says(t, c, steps, also, tr)
			want = append(want, also)
		}
	}
	slices.SortFunc(want, func(a, b []bool) int {
		return slices.CompareFunc(a, b, func(x, y bool) int {
			switch {
			case x == y:
				return 0
			case y:
				return -1
			}
			return 1
		})
	})
	if models := samples.Models(runBy(t, c, steps)); !slices.EqualFunc(models, want, slices.Equal) {
		t.Fatalf("%d steps of %s: the models are\n%s, want\n%s", steps, brief(c), brief(models), brief(want))
	}
}

// 16.5: all circuits of two variables, of up to three steps.
func TestModelsAreRunsOfTwoVariables(t *testing.T) {
	for _, c := range samples.TwoVariables() {
		for steps := 1; steps <= 3; steps++ {
			sayAll(t, c, steps)
		}
	}
}

// 16.5: all circuits of two gates over an input and a latch, of up to two steps; with each reset, and with and without a constraint.
func TestModelsAreRunsOfTwoGates(t *testing.T) {
	for i, c := range samples.TwoGates() {
		c.Latches[0].Reset = []int{0, 1, 4}[i%3]
		if l := i % 14; l < 10 {
			c.Constraints = []int{l}
		}
		sayAll(t, c, 1)
		sayAll(t, c, 2)
	}
}

// 16.5: the document's circuit, circuits of nothing, and small ones by chance, whose formulas have up to 11 variables.
func TestModelsAreRunsByChance(t *testing.T) {
	for steps := 1; steps <= 8; steps++ {
		sayAll(t, turning(), steps)
		sayAll(t, api.Circuit{}, steps)
		sayAll(t, api.Circuit{Constraints: []int{1, 0}}, steps)
		sayAll(t, api.Circuit{Max: 1}, steps)
		sayAll(t, api.Circuit{Max: 1, Inputs: []int{2}}, steps)
	}
	sayAll(t, stepping(), 1)
	r := rand.New(rand.NewSource(196))
	more := 0
	for range 1500 {
		steps := 1 + r.Intn(4)
		c := few(steps, 11, r)
		sayAll(t, c, steps)
		if steps > 1 && c.Max > 1 {
			more++
		}
	}
	if more < 300 {
		t.Errorf("%d circuits of more than one variable, of more than one step", more)
	}
}

// 16.5: the formulas of up to 16 variables have as many models as there are runs, times two for each variable at each step that nothing defines.
func TestAsManyModelsAsRuns(t *testing.T) {
	r := rand.New(rand.NewSource(197))
	none, loose := 0, 0
	for range 1500 {
		steps := 1 + r.Intn(5)
		c := few(steps, api.MaxTrial, r)
		is := countOf(graphOf(t, c), steps)
		also := len(looseIn(c, steps))
		if n, e := cnf.Models(runBy(t, c, steps)); n != is<<also || e != api.OK {
			t.Fatalf("%d steps of %+v: %d models, %v, want %d runs, %d variables that are nothing", steps, c, n, e, is, also)
		}
		if is == 0 {
			none++
		} else if also > 0 {
			loose++
		}
	}
	if min(none, loose) < 200 {
		t.Errorf("%d have no run, %d have runs and variables that are nothing", none, loose)
	}
}

// 16.5: Model of a run makes the formula true, whatever the variables are that nothing defines; with what is false turned, or the truth of a gate, or of a latch behind the first step, it does not.
func TestModelsHold(t *testing.T) {
	r := rand.New(rand.NewSource(198))
	held := 0
	for range 3000 {
		c, steps := samples.Circuit(r.Intn), 1+r.Intn(8)
		tr := samples.Run(c, steps, r.Intn)
		if len(tr.Inputs) < steps {
			continue
		}
		held++
		f := runBy(t, c, steps)
		model, e := frames.Model(c, steps, tr)
		if e != api.OK {
			t.Fatalf("%s: %v", brief(c, tr), e)
		}
		for _, where := range looseIn(c, steps) {
			model[where] = r.Intn(2) == 1
		}
		if is, clause, e := cnf.Holds(f, model); !is || e != api.OK {
			t.Fatalf("%s: the clause %d is false by %s, %v", brief(c, tr), clause, brief(model), e)
		}
		turned := []int{0}
		for step := range steps {
			for _, g := range c.Ands {
				turned = append(turned, at(c, g.Out, step)-1)
			}
			for _, l := range c.Latches {
				if step > 0 {
					turned = append(turned, at(c, l.Lit, step)-1)
				}
			}
		}
		where := turned[r.Intn(len(turned))]
		model[where] = !model[where]
		if is, _, _ := cnf.Holds(f, model); is {
			t.Fatalf("%s: true by %s, too, with %d turned", brief(c, tr), brief(model), where)
		}
	}
	if held < 1000 {
		t.Errorf("%d runs", held)
	}
}

// signed is a literal as it is, or negated.
func signed(l int, is bool) int {
	if is {
		return l
	}
	return -l
}

// 16.5: the first state and the rows say all: by their literals alone there follows of the formula, one literal by one, what Model tells of each variable at each step that something defines; and if the trace is no run, they go against it.
func TestStateAndRowsSayAll(t *testing.T) {
	r := rand.New(rand.NewSource(199))
	is, none := 0, 0
	follows := func(c api.Circuit, tr api.Trace) {
		steps := len(tr.Inputs)
		var told, want []int
		for i, l := range c.Latches {
			told = append(told, signed(at(c, l.Lit, 0), tr.Init[i]))
		}
		for step, row := range tr.Inputs {
			for i, l := range c.Inputs {
				told = append(told, signed(at(c, l, step), row[i]))
			}
		}
		model, isRun := modelOf(c, tr)
		loose := looseIn(c, steps)
		for v, truth := range model {
			if _, nothing := slices.BinarySearch(loose, v); !nothing && isRun {
				want = append(want, signed(v+1, truth))
			}
		}
		got, ok, e := cnf.Force(runBy(t, c, steps), told)
		if ok != isRun || isRun && !slices.Equal(got, want) || e != api.OK {
			t.Fatalf("%s: %s, want %s", brief(c, tr), brief(got, ok, e), brief(isRun, want))
		}
		if isRun {
			is++
		} else {
			none++
		}
	}
	for range 3000 {
		c := samples.Circuit(r.Intn)
		tr := samples.Run(c, 1+r.Intn(6), r.Intn)
		if len(tr.Inputs) == 0 || r.Intn(3) == 0 {
			tr = samples.Trace(c, 1+r.Intn(6), r.Intn)
		}
		follows(c, tr)
	}
	if min(is, none) < 500 {
		t.Errorf("%d runs, %d that are none", is, none)
	}
	follows(full(), rows(7, "", ""))
	long := rows(api.MaxFrames, "0", "")
	follows(turning(), long)
	long.Init[0] = true
	follows(turning(), long)
}

// 16.5: a literal can be true in the last step of a run of so many steps just where the formula has a model in which it is; and the run of that model is one.
func TestWhatIsReached(t *testing.T) {
	r := rand.New(rand.NewSource(200))
	can, never := 0, 0
	for range 1500 {
		steps := 1 + r.Intn(5)
		c := few(steps, api.MaxTrial, r)
		g := graphOf(t, c)
		for _, l := range c.Bads {
			want := g.Depths(l, steps)[steps-1]
			f := runBy(t, c, steps)
			bad, _ := frames.Lit(c, l, steps-1)
			f.Clauses = append(f.Clauses, api.Clause{bad})
			model, e := cnf.Least(f)
			if (e == api.OK) != want || e != api.OK && e != api.ErrNone {
				t.Fatalf("%+v: %d at the depth %d: %v, %v, want %v", c, l, steps-1, model, e, want)
			}
			if !want {
				never++
				continue
			}
			can++
			tr, e := frames.Trace(c, steps, model)
			if own, is := modelOf(c, tr); e != api.OK || !is || !samples.IsTrue(api.Clause{bad}, own) {
				t.Fatalf("%+v: %d is not true at the end of %+v, %v", c, l, tr, e)
			}
		}
	}
	if min(can, never) < 300 {
		t.Errorf("%d can be, %d can't", can, never)
	}
}
