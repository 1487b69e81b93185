package replay_test

import (
	"slices"
	"testing"

	"trestle/api"
	"trestle/samples"
	"trestle/shape"
)

// fits tells by chapter 7's words whether a trace fits.
func fits(c api.Circuit, tr api.Trace) bool {
	wrong := len(tr.Init) != len(c.Latches) || len(tr.Inputs) == 0 || len(tr.Inputs) > api.MaxFrames || tr.Loop < -1 || tr.Loop > len(tr.Inputs)-1
	for _, row := range tr.Inputs {
		wrong = wrong || len(row) != len(c.Inputs)
	}
	return !wrong
}

// story is a trace's steps, and the state behind each of them.
type story struct {
	steps []samples.Step
	then  [][]bool
}

// storyOf goes along a trace that fits, by layer 7, step by step.
func storyOf(c api.Circuit, tr api.Trace) story {
	var s story
	state := tr.Init
	for _, row := range tr.Inputs {
		x, _ := samples.StepOf(c, state, row)
		state = x.Next
		s.steps, s.then = append(s.steps, x), append(s.then, state)
	}
	return s
}

// ahead is the state in which a step begins.
func (s story) ahead(tr api.Trace, step int) []bool {
	if step == 0 {
		return tr.Init
	}
	return s.then[step-1]
}

// comes tells whether a literal is true in some step from first to last.
func (s story) comes(l, first, last int) bool {
	return slices.ContainsFunc(s.steps[first:last+1], func(x samples.Step) bool { return samples.Value(x.Values, l) })
}

// wrongAsRun is what 13.1 says of a trace that fits and is no run.
func wrongAsRun(c api.Circuit, tr api.Trace, s story) answer {
	for i, l := range c.Latches {
		if l.Reset == 0 && tr.Init[i] || l.Reset == 1 && !tr.Init[i] {
			return answer{at: i, e: api.ErrInit}
		}
	}
	for i, x := range s.steps {
		if !x.Holds {
			return answer{at: i, e: api.ErrBroken}
		}
	}
	return answer{}
}

// badOf is what 13.1 says of a right circuit.
func badOf(c api.Circuit, i int, tr api.Trace) answer {
	if i < 0 || i >= len(c.Bads) {
		return answer{e: api.ErrNone}
	}
	tr.Loop = -1
	if !fits(c, tr) {
		return answer{e: api.ErrShape}
	}
	s, last := storyOf(c, tr), len(tr.Inputs)-1
	if a := wrongAsRun(c, tr, s); a.e != api.OK {
		return a
	}
	if !s.comes(c.Bads[i], last, last) {
		return answer{at: last, e: api.ErrMissed}
	}
	return answer{at: last}
}

// justiceOf is what 13.2 says of a right circuit.
func justiceOf(c api.Circuit, j int, tr api.Trace) answer {
	if j < 0 || j >= len(c.Justice) {
		return answer{e: api.ErrNone}
	}
	if !fits(c, tr) {
		return answer{e: api.ErrShape}
	}
	s, last := storyOf(c, tr), len(tr.Inputs)-1
	if a := wrongAsRun(c, tr, s); a.e != api.OK {
		return a
	}
	if tr.Loop == -1 || !slices.Equal(s.then[last], s.ahead(tr, tr.Loop)) {
		return answer{at: last, e: api.ErrOpen}
	}
	for n, l := range slices.Concat(c.Justice[j], c.Fairness) {
		if !s.comes(l, tr.Loop, last) {
			return answer{at: n, e: api.ErrUnfair}
		}
	}
	return answer{at: tr.Loop}
}

// reachedOf is what 13.3 says of a right circuit.
func reachedOf(c api.Circuit, tr api.Trace) answer {
	if !fits(c, tr) {
		return answer{e: api.ErrShape}
	}
	s := storyOf(c, tr)
	if a := wrongAsRun(c, tr, s); a.e != api.OK {
		return answer{e: a.e}
	}
	var a answer
	for i, l := range c.Bads {
		if s.comes(l, 0, len(tr.Inputs)-1) {
			a.list = append(a.list, i)
		}
	}
	return a
}

// answerOf is what the chapter's words say of a call.
func answerOf(name string, c api.Circuit, g given) answer {
	_, e := shape.Check(c)
	switch {
	case e != api.OK:
		return answer{e: e}
	case name == "Bad" || name == "Prop" && g.p.Kind == 'b':
		if name == "Prop" {
			g.i = g.p.At
		}
		return badOf(c, g.i, g.tr)
	case name == "Justice" || name == "Prop" && g.p.Kind == 'j':
		if name == "Prop" {
			g.i = g.p.At
		}
		return justiceOf(c, g.i, g.tr)
	case name == "Prop":
		return answer{e: api.ErrNone}
	}
	return reachedOf(c, g.tr)
}

// asWords holds all calls against the chapter's words.
func asWords(t *testing.T, c api.Circuit, g given) {
	t.Helper()
	for _, x := range calls() {
		answers(t, "by the words", []call{x}, c, g, answerOf(x.name, c, g))
	}
}
