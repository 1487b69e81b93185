package frames_test

import (
	"fmt"
	"math/rand"
	"slices"
	"testing"

	"trestle/api"
	"trestle/frames"
	"trestle/samples"
)

// given is what is handed in beside a circuit; each call takes what it has a place for.
type given struct {
	lit, step, steps int
	model            []bool
	tr               api.Trace
}

// answer is what a call told; where it tells no such thing, there is nothing. Clauses that are no formula of their own stand as one of no variable.
type answer struct {
	n     int
	f     api.Cnf
	model []bool
	tr    api.Trace
	e     api.Errno
}

// call is a call of the package.
type call struct {
	name string
	of   func(c api.Circuit, g given) answer
}

// calls is all calls of the package.
func calls() []call {
	return []call{
		{"Lit", func(c api.Circuit, g given) answer { n, e := frames.Lit(c, g.lit, g.step); return answer{n: n, e: e} }},
		{"Vars", func(c api.Circuit, g given) answer { n, e := frames.Vars(c, g.steps); return answer{n: n, e: e} }},
		{"Step", func(c api.Circuit, g given) answer { return clauses(frames.Step(c, g.step)) }},
		{"Next", func(c api.Circuit, g given) answer { return clauses(frames.Next(c, g.step)) }},
		{"First", func(c api.Circuit, _ given) answer { return clauses(frames.First(c)) }},
		{"Run", func(c api.Circuit, g given) answer { f, e := frames.Run(c, g.steps); return answer{f: f, e: e} }},
		{"Trace", func(c api.Circuit, g given) answer {
			tr, e := frames.Trace(c, g.steps, g.model)
			return answer{tr: tr, e: e}
		}},
		{"Model", func(c api.Circuit, g given) answer {
			m, e := frames.Model(c, g.steps, g.tr)
			return answer{model: m, e: e}
		}},
	}
}

// clauses is an answer of clauses alone.
func clauses(l []api.Clause, e api.Errno) answer { return answer{f: api.Cnf{Clauses: l}, e: e} }

// some is the calls of these names.
func some(names ...string) []call {
	return slices.DeleteFunc(calls(), func(x call) bool { return !slices.Contains(names, x.name) })
}

// counting is the calls that take a number of steps.
func counting() []call { return some("Vars", "Run", "Trace", "Model") }

// stepwise is the calls that take a step.
func stepwise() []call { return some("Lit", "Step", "Next") }

// same tells whether two answers tell the same.
func (a answer) same(b answer) bool {
	return a.n == b.n && samples.SameFormula(a.f, b.f) && slices.Equal(a.model, b.model) && samples.SameTrace(a.tr, b.tr) && a.e == b.e
}

// turning is the circuit T of the document: one latch that turns each step.
func turning() api.Circuit {
	return api.Circuit{Max: 1, Latches: []api.Latch{{Lit: 2, Next: 3}}, Bads: []int{2}}
}

// stepping is a circuit of two inputs, three latches and four gates, in no order of their variables; the variable 3 is nothing, and the gates stand ahead of those that they use. The latch 8 begins with 1 and will be what the gate 14 is (2, and not 18), 4 begins with 0 and will be what the input 16 is, 10 may begin either way, and turns. The gate 18 is 8, and not 2; 20 is 18; 12 is neither 16 nor 4, and may not be, so that the input 16 is 1 wherever the latch 4 is 0.
func stepping() api.Circuit {
	return api.Circuit{
		Max: 10, Inputs: []int{16, 2}, Latches: []api.Latch{{Lit: 8, Next: 14, Reset: 1}, {Lit: 4, Next: 16}, {Lit: 10, Next: 11, Reset: 10}},
		Constraints: []int{13, 1}, Ands: []api.And{{Out: 14, Left: 19, Right: 2}, {Out: 20, Left: 18, Right: 18}, {Out: 18, Left: 8, Right: 3}, {Out: 12, Left: 17, Right: 5}},
	}
}

// brief is something as it can be told, if it is too long.
func brief(x ...any) string {
	s := fmt.Sprintf("%+v", x)
	if len(s) > 3000 {
		return s[:1500] + " .. " + s[len(s)-500:]
	}
	return s
}

// answers holds calls against what is wanted of all of them.
func answers(t *testing.T, all []call, c api.Circuit, g given, want answer) {
	t.Helper()
	for _, x := range all {
		if got := x.of(c, g); !got.same(want) {
			t.Fatalf("%s of %s:\n%s, want\n%s", x.name, brief(c, g), brief(got), brief(want))
		}
	}
}

// refuse holds calls against an error beside which there is nothing.
func refuse(t *testing.T, all []call, c api.Circuit, g given, want api.Errno) {
	t.Helper()
	answers(t, all, c, g, answer{e: want})
}

// tells holds a call against clauses, told as a list of them.
func tells(t *testing.T, name string, c api.Circuit, step int, want ...api.Clause) {
	t.Helper()
	answers(t, some(name), c, given{step: step}, answer{f: api.Cnf{Clauses: want}})
}

// runs holds Run against the formula that is wanted.
func runs(t *testing.T, c api.Circuit, steps int, want api.Cnf) {
	t.Helper()
	answers(t, some("Run"), c, given{steps: steps}, answer{f: want})
}

// runBy is the formula of so many steps.
func runBy(t *testing.T, c api.Circuit, steps int) api.Cnf {
	t.Helper()
	f, e := frames.Run(c, steps)
	if e != api.OK {
		t.Fatalf("%d steps of %s: %v", steps, brief(c), e)
	}
	return f
}

// isModel holds Model of a run against the truths that are wanted, and Trace of these against the run.
func isModel(t *testing.T, c api.Circuit, tr api.Trace, want []bool) {
	t.Helper()
	answers(t, some("Model"), c, given{steps: len(tr.Inputs), tr: tr}, answer{model: want})
	says(t, c, len(tr.Inputs), want, tr)
}

// says holds Trace of a model against the run that is wanted.
func says(t *testing.T, c api.Circuit, steps int, model []bool, tr api.Trace) {
	t.Helper()
	tr.Loop = -1
	answers(t, some("Trace"), c, given{steps: steps, model: model}, answer{tr: tr})
}

// noRun holds Model of a trace that fits against what there is of one that is no run.
func noRun(t *testing.T, c api.Circuit, tr api.Trace) {
	t.Helper()
	refuse(t, some("Model"), c, given{steps: len(tr.Inputs), tr: tr}, api.ErrForm)
}

// few is a circuit by chance of which so many steps have no more variables than most.
func few(steps, most int, r *rand.Rand) api.Circuit {
	for {
		if c := samples.Circuit(r.Intn); 1+steps*c.Max <= most {
			return c
		}
	}
}

// looseOf is the literals of a circuit's variables that nothing defines.
func looseOf(c api.Circuit) []int {
	is := make([]bool, c.Max+1)
	for _, l := range c.Inputs {
		is[l/2] = true
	}
	for _, l := range c.Latches {
		is[l.Lit/2] = true
	}
	for _, g := range c.Ands {
		is[g.Out/2] = true
	}
	var loose []int
	for v := 1; v <= c.Max; v++ {
		if !is[v] {
			loose = append(loose, 2*v)
		}
	}
	return loose
}
