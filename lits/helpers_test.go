package lits_test

import (
	"math"
	"slices"
	"testing"

	"trestle/api"
	"trestle/samples"
)

// noLiterals are numbers that are no formula's literals.
var noLiterals = []int{0, api.MaxCnf + 1, -api.MaxCnf - 1, math.MaxInt, math.MinInt}

// agrees is whether a model makes all literals of a list true.
func agrees(l []int, model []bool) bool {
	for _, x := range l {
		if !samples.IsTrue(api.Clause{x}, model) {
			return false
		}
	}
	return true
}

// ordered is a normal form by the chapter's words, found variable by variable; false: there is none.
func ordered(l []int, vars int) (api.Clause, bool) {
	var out api.Clause
	for v := 1; v <= vars; v++ {
		yes, no := slices.Contains(l, v), slices.Contains(l, -v)
		if yes && no {
			return nil, false
		}
		if yes {
			out = append(out, v)
		}
		if no {
			out = append(out, -v)
		}
	}
	return out, true
}

// lacking is a list without a literal, wherever it stands.
func lacking(l []int, x int) []int {
	return slices.DeleteFunc(slices.Clone(l), func(y int) bool { return y == x })
}

// rising is the clause of the variables from first to last.
func rising(first, last int) api.Clause {
	var out api.Clause
	for v := first; v <= last; v++ {
		out = append(out, v)
	}
	return out
}

// zeros is a list of so many members that are no literals: too long ahead of being wrong.
func zeros(n int) []int { return make([]int, n) }

// guarded is a copy of a list with spare room behind it, in which 7 stands.
func guarded(l []int) []int {
	out := append(slices.Clone(l), 7, 7, 7, 7)
	return out[:len(l)]
}

// untouched looks whether a guarded list and its spare room are as they were.
func untouched(t *testing.T, what string, now, was []int) {
	t.Helper()
	whole := now[:len(was)+4]
	if !slices.Equal(whole[:len(was)], was) || !slices.Equal(whole[len(was):], []int{7, 7, 7, 7}) {
		t.Errorf("%s: handed in %v, is now %v with spare room %v", what, was, now, whole[len(was):])
	}
}

// spoil writes over all that belongs to a list, spare room too.
func spoil(l []int) {
	l = l[:cap(l)]
	for i := range l {
		l[i] = 99
	}
}
