package frames

import (
	"trestle/api"
	"trestle/shape"
)

// varsOf is how many variables the formula of so many steps has.
func varsOf(c api.Circuit, steps int) int { return 1 + steps*c.Max }

// countOf is how many clauses the formula of so many steps has.
func countOf(c api.Circuit, steps int) int {
	resets := len(frame{c, 0}.resets())
	each := 3*len(c.Ands) + len(c.Constraints)
	between := 2 * len(c.Latches)
	return 1 + resets + steps*each + (steps-1)*between
}

// check tells what is wrong with a circuit, or with a number of its steps.
func check(c api.Circuit, steps int) api.Errno {
	if _, e := shape.Check(c); e != api.OK {
		return e
	}
	return checkSteps(c, steps)
}

// checkSteps tells what is wrong with a number of a right circuit's steps.
func checkSteps(c api.Circuit, steps int) api.Errno {
	if steps < 1 || steps > api.MaxFrames {
		return api.ErrRange
	}
	if varsOf(c, steps) > api.MaxCnf {
		return api.ErrSize
	}
	return api.OK
}

// checkStep tells what is wrong with a step, counted from 0 on, that has so many more behind it.
func checkStep(c api.Circuit, step, more int) api.Errno {
	// Ahead of counting the steps, since that may go beyond all numbers.
	if step < 0 || step >= api.MaxFrames {
		return api.ErrRange
	}
	return checkSteps(c, step+1+more)
}

// running is a right circuit with nothing but what its runs hang on, so that the layers below, which look at all of it step by step, do not look at the rest.
func running(c api.Circuit) api.Circuit {
	return api.Circuit{Max: c.Max, Inputs: c.Inputs, Latches: c.Latches, Constraints: c.Constraints, Ands: c.Ands}
}
