// Package lits is layer 1: literals of circuits and of formulas, and clauses: their normal form, their value, what is left of them by an assignment, resolution, subsumption. See shared/doc/01-lits.md.
package lits

import "trestle/api"

// Not is the circuit's literal of the same variable, negated the other way.
func Not(l int) (int, api.Errno) {
	if !isCircuits(l) {
		return 0, api.ErrRange
	}
	return l ^ 1, api.OK
}

// To is the formula's literal that a circuit's literal stands for.
func To(l int) (int, api.Errno) {
	if !isCircuits(l) {
		return 0, api.ErrRange
	}
	v := l/2 + 1
	if l%2 == 1 {
		return -v, api.OK
	}
	return v, api.OK
}

// From is the circuit's literal of which To is x.
func From(x int) (int, api.Errno) {
	if !isFormulas(x) || variable(x) > api.MaxVar+1 {
		return 0, api.ErrRange
	}
	l := 2 * (variable(x) - 1)
	if x < 0 {
		return l + 1, api.OK
	}
	return l, api.OK
}

// isCircuits tells whether l is a circuit's literal.
func isCircuits(l int) bool { return 0 <= l && l <= 2*api.MaxVar+1 }

// isFormulas tells whether x is a formula's literal.
func isFormulas(x int) bool { return x != 0 && -api.MaxCnf <= x && x <= api.MaxCnf }

// variable is that of a formula's literal.
func variable(x int) int { return max(x, -x) }
