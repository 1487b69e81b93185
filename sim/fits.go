package sim

import "trestle/api"

// stateFits tells whether there is a truth for each latch.
func stateFits(c api.Circuit, state []bool) bool { return len(state) == len(c.Latches) }

// rowFits tells whether there is a truth for each input.
func rowFits(c api.Circuit, row []bool) bool { return len(row) == len(c.Inputs) }

// traceFits tells whether the trace has a first state, input rows and a loop that go with the circuit.
func traceFits(c api.Circuit, t api.Trace) bool {
	rows := len(t.Inputs)
	if !stateFits(c, t.Init) || rows < 1 || rows > api.MaxFrames {
		return false
	}
	for _, row := range t.Inputs {
		if !rowFits(c, row) {
			return false
		}
	}
	return -1 <= t.Loop && t.Loop < rows
}
