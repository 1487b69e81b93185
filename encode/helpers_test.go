package encode_test

import (
	"fmt"
	"slices"
	"testing"

	"trestle/api"
	"trestle/encode"
	"trestle/samples"
)

// given is what is handed in beside a circuit; each call takes what it has a place for.
type given struct {
	l                 int
	lits              []int
	state, row, model []bool
}

// answer is what a call told; where it tells no such thing, there is nothing.
type answer struct {
	l                 int
	f                 api.Cnf
	state, row, model []bool
	e                 api.Errno
}

// call is a call of the package.
type call struct {
	name string
	of   func(c api.Circuit, g given) answer
}

// calls is all calls of the package.
func calls() []call {
	return []call{
		{"Lit", func(c api.Circuit, g given) answer { l, e := encode.Lit(c, g.l); return answer{l: l, e: e} }},
		{"Gates", func(c api.Circuit, _ given) answer { f, e := encode.Gates(c); return answer{f: f, e: e} }},
		{"Cone", func(c api.Circuit, g given) answer { f, e := encode.Cone(c, g.lits); return answer{f: f, e: e} }},
		{"Model", func(c api.Circuit, g given) answer {
			m, e := encode.Model(c, g.state, g.row)
			return answer{model: m, e: e}
		}},
		{"Step", func(c api.Circuit, g given) answer {
			s, r, e := encode.Step(c, g.model)
			return answer{state: s, row: r, e: e}
		}},
	}
}

// some is the calls of these names.
func some(names ...string) []call {
	return slices.DeleteFunc(calls(), func(x call) bool { return !slices.Contains(names, x.name) })
}

// same tells whether two answers tell the same.
func (a answer) same(b answer) bool {
	return a.l == b.l && samples.SameFormula(a.f, b.f) && slices.Equal(a.state, b.state) && slices.Equal(a.row, b.row) && slices.Equal(a.model, b.model) && a.e == b.e
}

// example is the circuit of the chapter's examples.
func example() api.Circuit {
	return api.Circuit{Max: 3, Inputs: []int{2, 4}, Ands: []api.And{{Out: 6, Left: 2, Right: 4}}}
}

// stepping is a circuit of two inputs, two latches and four gates; the latch 6 will be what the gate 10 is, and the gate 14 uses the latch 6, the gate 16 both 12 and 10. The gates stand ahead of those that they use.
func stepping() api.Circuit {
	return api.Circuit{
		Max: 8, Inputs: []int{4, 2}, Latches: []api.Latch{{Lit: 8, Next: 2}, {Lit: 6, Next: 10, Reset: 1}},
		Ands: []api.And{{Out: 16, Left: 13, Right: 10}, {Out: 14, Left: 6, Right: 8}, {Out: 12, Left: 11, Right: 2}, {Out: 10, Left: 2, Right: 5}},
	}
}

// gate is a gate of a formula: its literals of Out, Left and Right.
type gate [3]int

// formula is the formula of these gates, laid out clause by clause.
func formula(vars int, gates ...gate) api.Cnf {
	f := api.Cnf{Vars: vars, Clauses: []api.Clause{{-1}}}
	for _, g := range gates {
		f.Clauses = append(f.Clauses, api.Clause{-g[0], g[1]}, api.Clause{-g[0], g[2]}, api.Clause{g[0], -g[1], -g[2]})
	}
	return f
}

// brief is something as it can be told, if it is too long.
func brief(x ...any) string {
	s := fmt.Sprintf("%+v", x)
	if len(s) > 3000 {
		return s[:1500] + " .. " + s[len(s)-500:]
	}
	return s
}

// literal holds Lit against the literal that is wanted.
func literal(t *testing.T, c api.Circuit, l, want int) {
	t.Helper()
	if got, e := encode.Lit(c, l); got != want || e != api.OK {
		t.Fatalf("%d of %s: %d, %v, want %d", l, brief(c), got, e, want)
	}
}

// says holds Gates, and Cone of the Outs of all gates, against the formula that is wanted.
func says(t *testing.T, c api.Circuit, want api.Cnf) {
	t.Helper()
	if got, e := encode.Gates(c); !samples.SameFormula(got, want) || e != api.OK {
		t.Fatalf("%s:\n%s, %v, want\n%s", brief(c), brief(got), e, brief(want))
	}
	var outs []int
	for _, g := range c.Ands {
		outs = append(outs, g.Out)
	}
	saysOf(t, c, outs, want)
}

// saysOf holds Cone of literals, also negated, and against their order, against the formula that is wanted.
func saysOf(t *testing.T, c api.Circuit, lits []int, want api.Cnf) {
	t.Helper()
	lits = slices.Clone(lits)
	for range 2 {
		if got, e := encode.Cone(c, lits); !samples.SameFormula(got, want) || e != api.OK {
			t.Fatalf("%s of %s:\n%s, %v, want\n%s", brief(lits), brief(c), brief(got), e, brief(want))
		}
		slices.Reverse(lits)
		for i := range lits {
			lits[i] ^= 1
		}
	}
}

// modelBy is what Model makes of a state and a row that fit.
func modelBy(t *testing.T, c api.Circuit, state, row []bool) []bool {
	t.Helper()
	m, e := encode.Model(c, state, row)
	if e != api.OK {
		t.Fatalf("%s: %v", brief(state, row, c), e)
	}
	return m
}

// stepBy is what Step makes of as many truths as there must be.
func stepBy(t *testing.T, c api.Circuit, model []bool) (state, row []bool) {
	t.Helper()
	state, row, e := encode.Step(c, model)
	if e != api.OK {
		t.Fatalf("%s: %v", brief(model, c), e)
	}
	return state, row
}

// isModel holds Model of a state and a row against the truths that are wanted, and Step of these against the state and the row.
func isModel(t *testing.T, c api.Circuit, state, row, want []bool) {
	t.Helper()
	if got := modelBy(t, c, state, row); !slices.Equal(got, want) {
		t.Fatalf("%s: %s, want %s", brief(state, row, c), brief(got), brief(want))
	}
	isStep(t, c, want, state, row)
}

// isStep holds Step of a model against the state and the row that are wanted.
func isStep(t *testing.T, c api.Circuit, model, state, row []bool) {
	t.Helper()
	if s, r := stepBy(t, c, model); !slices.Equal(s, state) || !slices.Equal(r, row) {
		t.Fatalf("%s: %s, want %s", brief(model, c), brief(s, r), brief(state, row))
	}
}

// inAllSteps goes over all states of a circuit and all rows.
func inAllSteps(c api.Circuit, step func(state, row []bool)) {
	for _, state := range samples.AllLists(len(c.Latches), false, true) {
		for _, row := range samples.AllLists(len(c.Inputs), false, true) {
			step(state, row)
		}
	}
}

// refuse holds calls against the error that is wanted; there must be nothing beside it.
func refuse(t *testing.T, what any, all []call, c api.Circuit, g given, want api.Errno) {
	t.Helper()
	for _, x := range all {
		if got := x.of(c, g); !got.same(answer{e: want}) {
			t.Fatalf("%s: %s: %s, want %v", brief(what), x.name, brief(got), want)
		}
	}
}
