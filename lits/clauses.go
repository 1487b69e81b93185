package lits

import (
	"cmp"
	"slices"

	"trestle/api"
)

// Normal is a clause's normal form: each literal once, by rising variables.
func Normal(c api.Clause) (api.Clause, api.Errno) {
	if e := check(c); e != api.OK {
		return nil, e
	}
	n, ok := normal(c)
	if !ok {
		return nil, api.ErrTaut
	}
	return n, api.OK
}

// Value tells whether a model makes one of a clause's literals true.
func Value(c api.Clause, model []bool) (bool, api.Errno) {
	if e := check(c); e != api.OK {
		return false, e
	}
	if len(model) > api.MaxCnf {
		return false, api.ErrLong
	}
	// A true literal may stand ahead of one that the model does not know, so all are gone through.
	value := false
	for _, x := range c {
		if variable(x) > len(model) {
			return false, api.ErrNone
		}
		if model[variable(x)-1] == (x > 0) {
			value = true
		}
	}
	return value, api.OK
}

// Rest is what an assignment leaves of a clause's normal form; true: it makes the clause true.
func Rest(c api.Clause, assigned []int) (api.Clause, bool, api.Errno) {
	if e := check(c); e != api.OK {
		return nil, false, e
	}
	signs, e := settle(assigned)
	if e != api.OK {
		return nil, false, e
	}
	n, ok := normal(c)
	if !ok {
		return nil, false, api.ErrTaut
	}
	rest := api.Clause{}
	for _, x := range n {
		sign := signOf(x, signs)
		if sign == 0 {
			rest = append(rest, x)
		} else if (sign > 0) == (x > 0) {
			return nil, true, api.OK
		}
	}
	return rest, false, api.OK
}

// settle gives of each variable, up to the greatest assigned one, 1 or -1 as its true literal is above or below 0; 0: it is open.
func settle(assigned []int) ([]int8, api.Errno) {
	if len(assigned) > api.MaxCnf {
		return nil, api.ErrLong
	}
	greatest := 0
	for i := range len(assigned) {
		if !isFormulas(assigned[i]) {
			return nil, api.ErrRange
		}
		greatest = max(greatest, variable(assigned[i]))
	}
	signs := make([]int8, greatest+1)
	for i := range len(assigned) {
		x := assigned[i]
		sign := int8(cmp.Compare(x, 0))
		if signs[variable(x)] == -sign {
			return nil, api.ErrShape
		}
		signs[variable(x)] = sign
	}
	return signs, api.OK
}

// signOf is the sign of a literal's variable, also of one that lies beyond all that are assigned.
func signOf(x int, signs []int8) int8 {
	if variable(x) >= len(signs) {
		return 0
	}
	return signs[variable(x)]
}

// check says what is wrong with a clause that was handed in.
func check(c api.Clause) api.Errno {
	if len(c) > api.MaxItems {
		return api.ErrLong
	}
	for _, x := range c {
		if !isFormulas(x) {
			return api.ErrRange
		}
	}
	return api.OK
}

// normal puts a copy of a clause's literals in order; false: it has a literal and its negation.
func normal(c api.Clause) (api.Clause, bool) {
	n := make(api.Clause, len(c))
	copy(n, c)
	slices.SortFunc(n, compare)
	n = slices.Compact(n)
	for i := 1; i < len(n); i++ {
		if n[i-1] == -n[i] {
			return nil, false
		}
	}
	return n, true
}

// compare puts literals in order by their variables, and like ones side by side.
func compare(x, y int) int {
	return cmp.Or(cmp.Compare(variable(x), variable(y)), cmp.Compare(x, y))
}

// has tells whether a literal is in a normal clause.
func has(n api.Clause, x int) bool {
	_, found := slices.BinarySearchFunc(n, x, compare)
	return found
}

// without is a copy of a clause that lacks a literal.
func without(c api.Clause, x int) api.Clause {
	out := make(api.Clause, 0, len(c))
	for _, y := range c {
		if y != x {
			out = append(out, y)
		}
	}
	return out
}
