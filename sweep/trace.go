package sweep

import (
	"slices"

	"trestle/api"
)

// fits tells whether a trace fits a circuit, as chapter 7 says it. Layer 7 would tell so, too, but it goes along the whole run.
func fits(c api.Circuit, t api.Trace) bool {
	rows := len(t.Inputs)
	if len(t.Init) != len(c.Latches) || rows < 1 || rows > api.MaxFrames {
		return false
	}
	for _, row := range t.Inputs {
		if len(row) != len(c.Inputs) {
			return false
		}
	}
	return -1 <= t.Loop && t.Loop < rows
}

// traceOf is a trace of what a circuit was swept to in the circuit: by the literals that variables have become, and the values of what was swept in the trace's first step.
func traceOf(c api.Circuit, became []int, values []bool, t api.Trace) api.Trace {
	out := api.Trace{Init: make([]bool, len(c.Latches)), Inputs: make([][]bool, len(t.Inputs)), Loop: t.Loop}
	for i, l := range c.Latches {
		to := became[l.Lit/2]
		negated := to%2 == 1
		out.Init[i] = values[to/2] != negated
	}
	for i, row := range t.Inputs {
		out.Inputs[i] = slices.Clone(row)
	}
	return out
}
