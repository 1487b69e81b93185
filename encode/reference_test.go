package encode_test

import (
	"slices"
	"testing"

	"trestle/api"
	"trestle/lits"
	"trestle/shape"
	"trestle/sim"
)

// to is the formula's literal of a circuit's literal: layer 1 tells it.
func to(l int) int {
	x, _ := lits.To(l)
	return x
}

// hungOn tells of each variable by the chapter's words whether one of some literals hangs on it within one step: what hangs is looked through again and again, until nothing comes to it.
func hungOn(c api.Circuit, lits []int) []bool {
	on := make([]bool, c.Max+1)
	for _, l := range lits {
		on[l/2] = true
	}
	for {
		was := slices.Clone(on)
		for _, g := range c.Ands {
			if on[g.Out/2] {
				on[g.Left/2], on[g.Right/2] = true, true
			}
		}
		if slices.Equal(was, on) {
			return on
		}
	}
}

// formulaOf is the formula of a circuit by the chapter's words, with the clauses of those gates alone whose variables are told.
func formulaOf(c api.Circuit, with []bool) api.Cnf {
	f := api.Cnf{Vars: c.Max + 1, Clauses: []api.Clause{{-1}}}
	for _, g := range c.Ands {
		if with[g.Out/2] {
			o, l, r := to(g.Out), to(g.Left), to(g.Right)
			f.Clauses = append(f.Clauses, api.Clause{-o, l}, api.Clause{-o, r}, api.Clause{o, -l, -r})
		}
	}
	return f
}

// allOf tells all variables of a circuit.
func allOf(c api.Circuit) []bool { return slices.Repeat([]bool{true}, c.Max+1) }

// wrongOf is what a call refuses by the chapter's words, or OK.
func wrongOf(name string, c api.Circuit, g given) api.Errno {
	if _, e := shape.Check(c); e != api.OK {
		return e
	}
	isNone := func(l int) bool { return l < 0 || l > 2*c.Max+1 }
	switch {
	case name == "Lit" && isNone(g.l):
		return api.ErrRange
	case name == "Cone" && len(g.lits) > api.MaxItems:
		return api.ErrLong
	case name == "Cone" && slices.ContainsFunc(g.lits, isNone):
		return api.ErrRange
	case name == "Model" && (len(g.state) != len(c.Latches) || len(g.row) != len(c.Inputs)):
		return api.ErrShape
	case name == "Step" && len(g.model) != c.Max+1:
		return api.ErrShape
	}
	return api.OK
}

// answerOf is what a call answers by the chapter's words.
func answerOf(name string, c api.Circuit, g given) answer {
	a := answer{e: wrongOf(name, c, g)}
	if a.e != api.OK {
		return a
	}
	switch name {
	case "Lit":
		a.l = to(g.l)
	case "Gates":
		a.f = formulaOf(c, allOf(c))
	case "Cone":
		a.f = formulaOf(c, hungOn(c, g.lits))
	case "Model":
		// The variable v + 1 stands at v.
		a.model, _ = sim.Values(c, g.state, g.row)
	case "Step":
		for _, l := range c.Latches {
			a.state = append(a.state, g.model[to(l.Lit)-1])
		}
		for _, l := range c.Inputs {
			a.row = append(a.row, g.model[to(l)-1])
		}
	}
	return a
}

// asWords holds calls against the chapter's words.
func asWords(t *testing.T, calls []call, c api.Circuit, g given) {
	t.Helper()
	for _, x := range calls {
		want := answerOf(x.name, c, g)
		if got := x.of(c, g); !got.same(want) {
			t.Fatalf("%s of %s:\n%s, want\n%s", x.name, brief(c, g), brief(got), brief(want))
		}
	}
}
