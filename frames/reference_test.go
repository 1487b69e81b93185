package frames_test

import (
	"slices"
	"testing"

	"trestle/api"
	"trestle/samples"
	"trestle/shape"
)

// at is the formula's literal of a circuit's literal at a step, by the chapter's words.
func at(c api.Circuit, l, t int) int {
	x := 1
	if v := l / 2; v > 0 {
		x = 2 + t*c.Max + (v - 1)
	}
	if l%2 == 1 {
		return -x
	}
	return x
}

// stepOf is the clauses of a step.
func stepOf(c api.Circuit, t int) []api.Clause {
	var all []api.Clause
	for _, g := range c.Ands {
		o, l, r := at(c, g.Out, t), at(c, g.Left, t), at(c, g.Right, t)
		all = append(all, api.Clause{-o, l}, api.Clause{-o, r}, api.Clause{o, -l, -r})
	}
	for _, l := range c.Constraints {
		all = append(all, api.Clause{at(c, l, t)})
	}
	return all
}

// firstOf is the clauses of the resets.
func firstOf(c api.Circuit) []api.Clause {
	var all []api.Clause
	for _, l := range c.Latches {
		if l.Reset < 2 {
			all = append(all, api.Clause{at(c, l.Lit^1^l.Reset, 0)})
		}
	}
	return all
}

// nextOf is the clauses from a step to the next one.
func nextOf(c api.Circuit, t int) []api.Clause {
	var all []api.Clause
	for _, l := range c.Latches {
		x, n := at(c, l.Lit, t+1), at(c, l.Next, t)
		all = append(all, api.Clause{-x, n}, api.Clause{x, -n})
	}
	return all
}

// runOf is the formula of so many steps.
func runOf(c api.Circuit, steps int) api.Cnf {
	all := slices.Concat([]api.Clause{{-1}}, firstOf(c), stepOf(c, 0))
	for t := 1; t < steps; t++ {
		all = append(append(all, nextOf(c, t-1)...), stepOf(c, t)...)
	}
	return api.Cnf{Vars: 1 + steps*c.Max, Clauses: all}
}

// traceOf is what a model says.
func traceOf(c api.Circuit, steps int, model []bool) api.Trace {
	tr := api.Trace{Loop: -1}
	for _, l := range c.Latches {
		tr.Init = append(tr.Init, model[at(c, l.Lit, 0)-1])
	}
	for t := range steps {
		var row []bool
		for _, l := range c.Inputs {
			row = append(row, model[at(c, l, t)-1])
		}
		tr.Inputs = append(tr.Inputs, row)
	}
	return tr
}

// modelOf is the truths of a trace that fits, and whether it is a run; step by step by layer 7.
func modelOf(c api.Circuit, tr api.Trace) (model []bool, isRun bool) {
	model, isRun = make([]bool, 1+len(tr.Inputs)*c.Max), true
	state := tr.Init
	for t, row := range tr.Inputs {
		s, e := samples.StepOf(c, state, row)
		isRun = isRun && e == api.OK && s.Holds && (t > 0 || s.Starts)
		for v := 1; v <= c.Max; v++ {
			model[at(c, 2*v, t)-1] = s.Values[v]
		}
		state = s.Next
	}
	return model, isRun
}

// fits tells whether a trace has what the chapter asks for.
func fits(c api.Circuit, steps int, tr api.Trace) bool {
	isWrong := func(row []bool) bool { return len(row) != len(c.Inputs) }
	return len(tr.Init) == len(c.Latches) && len(tr.Inputs) == steps && !slices.ContainsFunc(tr.Inputs, isWrong)
}

// wrongSteps is what is wrong with a number of steps.
func wrongSteps(c api.Circuit, steps int) api.Errno {
	switch {
	case steps < 1 || steps > 512:
		return api.ErrRange
	case 1+steps*c.Max > 1<<18:
		return api.ErrSize
	}
	return api.OK
}

// wrongStep is what is wrong with a step, the last of which is told, and behind which more must be.
func wrongStep(c api.Circuit, step, last int) api.Errno {
	if step < 0 || step > last {
		return api.ErrRange
	}
	return wrongSteps(c, step+512-last)
}

// wrongOf is what a call refuses by the chapter's words, or OK.
func wrongOf(name string, c api.Circuit, g given) api.Errno {
	if _, e := shape.Check(c); e != api.OK {
		return e
	}
	switch name {
	case "Lit":
		if g.lit < 0 || g.lit > 2*c.Max+1 {
			return api.ErrRange
		}
		return wrongStep(c, g.step, 511)
	case "Step":
		return wrongStep(c, g.step, 511)
	case "Next":
		return wrongStep(c, g.step, 510)
	case "First":
		return wrongSteps(c, 1)
	}
	if e := wrongSteps(c, g.steps); e != api.OK {
		return e
	}
	switch name {
	case "Run":
		if len(runOf(c, g.steps).Clauses) > 1<<19 {
			return api.ErrSize
		}
	case "Trace":
		if len(g.model) != 1+g.steps*c.Max {
			return api.ErrShape
		}
	case "Model":
		if !fits(c, g.steps, g.tr) {
			return api.ErrShape
		}
		if _, is := modelOf(c, g.tr); !is {
			return api.ErrForm
		}
	}
	return api.OK
}

// answerOf is what a call answers by the chapter's words.
func answerOf(name string, c api.Circuit, g given) answer {
	a := answer{e: wrongOf(name, c, g)}
	if a.e != api.OK {
		return a
	}
	switch name {
	case "Lit":
		a.n = at(c, g.lit, g.step)
	case "Vars":
		a.n = 1 + g.steps*c.Max
	case "Step":
		a.f.Clauses = stepOf(c, g.step)
	case "Next":
		a.f.Clauses = nextOf(c, g.step)
	case "First":
		a.f.Clauses = firstOf(c)
	case "Run":
		a.f = runOf(c, g.steps)
	case "Trace":
		a.tr = traceOf(c, g.steps, g.model)
	case "Model":
		a.model, _ = modelOf(c, g.tr)
	}
	return a
}

// asWords holds calls against the chapter's words.
func asWords(t *testing.T, all []call, c api.Circuit, g given) {
	t.Helper()
	for _, x := range all {
		answers(t, []call{x}, c, g, answerOf(x.name, c, g))
	}
}
