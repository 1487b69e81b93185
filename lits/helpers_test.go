package lits_test

import (
	"math"
	"slices"
	"testing"

	"trestle/api"
)

// noLiterals are numbers that are no formula's literals.
var noLiterals = []int{0, api.MaxCnf + 1, -api.MaxCnf - 1, math.MaxInt, math.MinInt}

// lists is all lists of up to most literals of the variables 1 to vars.
func lists(vars, most int) [][]int {
	all := [][]int{nil}
	for last := all; most > 0; most-- {
		var longer [][]int
		for _, l := range last {
			for v := 1; v <= vars; v++ {
				longer = append(longer, append(slices.Clone(l), v), append(slices.Clone(l), -v))
			}
		}
		all = append(all, longer...)
		last = longer
	}
	return all
}

// clauses is lists as clauses.
func clauses(vars, most int) []api.Clause {
	var out []api.Clause
	for _, l := range lists(vars, most) {
		out = append(out, l)
	}
	return out
}

// models is all models of the variables 1 to vars.
func models(vars int) [][]bool {
	var out [][]bool
	for n := range 1 << vars {
		m := make([]bool, vars)
		for i := range m {
			m[i] = n>>i&1 == 1
		}
		out = append(out, m)
	}
	return out
}

// truth is whether a model makes a literal of a list true.
func truth(l []int, model []bool) bool {
	return slices.ContainsFunc(l, func(x int) bool {
		if x < 0 {
			return !model[-x-1]
		}
		return model[x-1]
	})
}

// agrees is whether a model makes all literals of a list true.
func agrees(l []int, model []bool) bool {
	for _, x := range l {
		if !truth([]int{x}, model) {
			return false
		}
	}
	return true
}

// ordered is a normal form by the chapter's words, found variable by variable; false: there is none.
func ordered(l []int, vars int) (api.Clause, bool) {
	var out api.Clause
	for v := 1; v <= vars; v++ {
		yes, no := slices.Contains(l, v), slices.Contains(l, -v)
		if yes && no {
			return nil, false
		}
		if yes {
			out = append(out, v)
		}
		if no {
			out = append(out, -v)
		}
	}
	return out, true
}

// lacking is a list without a literal, wherever it stands.
func lacking(l []int, x int) []int {
	return slices.DeleteFunc(slices.Clone(l), func(y int) bool { return y == x })
}

// rising is the clause of the variables from first to last.
func rising(first, last int) api.Clause {
	var out api.Clause
	for v := first; v <= last; v++ {
		out = append(out, v)
	}
	return out
}

// zeros is a list of so many members that are no literals: too long ahead of being wrong.
func zeros(n int) []int { return make([]int, n) }

// guarded is a copy of a list with spare room behind it, in which 7 stands.
func guarded(l []int) []int {
	out := append(slices.Clone(l), 7, 7, 7, 7)
	return out[:len(l)]
}

// untouched looks whether a guarded list and its spare room are as they were.
func untouched(t *testing.T, what string, now, was []int) {
	t.Helper()
	whole := now[:len(was)+4]
	if !slices.Equal(whole[:len(was)], was) || !slices.Equal(whole[len(was):], []int{7, 7, 7, 7}) {
		t.Errorf("%s: handed in %v, is now %v with spare room %v", what, was, now, whole[len(was):])
	}
}

// spoil writes over all that belongs to a list, spare room too.
func spoil(l []int) {
	l = l[:cap(l)]
	for i := range l {
		l[i] = 99
	}
}
