package frames

import (
	"slices"

	"trestle/api"
	"trestle/encode"
	"trestle/sim"
)

// withoutLoop stands in a trace in place of a step to which it goes back.
const withoutLoop = -1

// traceOf is the trace that a model of so many steps says.
func traceOf(c api.Circuit, steps int, model []bool) api.Trace {
	f := frame{c, 0}
	t := api.Trace{Init: make([]bool, len(c.Latches)), Inputs: make([][]bool, steps), Loop: withoutLoop}
	for i, l := range c.Latches {
		t.Init[i] = model[f.at(l.Lit)-1]
	}
	for step := range t.Inputs {
		row := make([]bool, len(c.Inputs))
		for i, l := range c.Inputs {
			row[i] = model[f.at(l)-1]
		}
		t.Inputs[step] = row
		f = f.then()
	}
	return t
}

// momentsOf is the steps of a trace, if it is a run. To which step it goes back says nothing of that; layer 7 refuses first values and rows that do not fit.
func momentsOf(c api.Circuit, t api.Trace) ([]api.Moment, api.Errno) {
	begins, e := sim.Starts(c, t.Init)
	if e != api.OK {
		return nil, e
	}
	t.Loop = withoutLoop
	moments, e := sim.Run(c, t)
	if e != api.OK {
		return nil, e
	}
	breaks := func(m api.Moment) bool { return !m.Holds }
	if !begins || slices.ContainsFunc(moments, breaks) {
		return nil, api.ErrForm
	}
	return moments, api.OK
}

// modelOf is the truths of the formula's variables in a trace, if it is a run: layer 15's of each step, behind the one of what is false.
func modelOf(c api.Circuit, t api.Trace) ([]bool, api.Errno) {
	moments, e := momentsOf(c, t)
	if e != api.OK {
		return nil, e
	}
	model := make([]bool, 1, varsOf(c, len(moments)))
	for step, m := range moments {
		truths, e := encode.Model(c, m.State, t.Inputs[step])
		if e != api.OK {
			return nil, e
		}
		model = append(model, truths[1:]...)
	}
	return model, api.OK
}
