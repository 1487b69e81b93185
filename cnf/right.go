package cnf

import (
	"trestle/api"
	"trestle/lits"
)

// checkList tells what is wrong with a list of literals of so many variables.
func checkList(l []int, vars int) api.Errno {
	if len(l) > api.MaxItems {
		return api.ErrLong
	}
	for _, x := range l {
		if !isLiteral(x, vars) {
			return api.ErrVar
		}
	}
	return api.OK
}

// isLiteral tells whether x is a literal of so many variables.
func isLiteral(x, vars int) bool { return x != 0 && -vars <= x && x <= vars }

// variable is that of a literal.
func variable(x int) int { return max(x, -x) }

// isTrue tells whether a model makes a clause of a right formula true.
func isTrue(c api.Clause, model []bool) bool {
	value, _ := lits.Value(c, model)
	return value
}
