package lits

import "trestle/api"

// Resolve is what two clauses come to by a literal that is in a and whose negation is in b.
func Resolve(a, b api.Clause, pivot int) (api.Clause, api.Errno) {
	m, n, e := normals(a, b)
	if e != api.OK {
		return nil, e
	}
	if !isFormulas(pivot) {
		return nil, api.ErrRange
	}
	if !has(m, pivot) || !has(n, -pivot) {
		return nil, api.ErrPivot
	}
	both, ok := normal(append(without(m, pivot), without(n, -pivot)...))
	if !ok {
		return nil, api.ErrTaut
	}
	return both, api.OK
}

// Subsumes tells whether all literals of a are in b.
func Subsumes(a, b api.Clause) (bool, api.Errno) {
	m, n, e := normals(a, b)
	if e != api.OK {
		return false, e
	}
	return len(missing(m, n)) == 0, api.OK
}

// Strengthen is b without the negation of the only literal of a that is not in b; false: that can't be done.
func Strengthen(a, b api.Clause) (api.Clause, bool, api.Errno) {
	m, n, e := normals(a, b)
	if e != api.OK {
		return nil, false, e
	}
	lacks := missing(m, n)
	if len(lacks) != 1 || !has(n, -lacks[0]) {
		return nil, false, api.OK
	}
	return without(n, -lacks[0]), true, api.OK
}

// normals is the normal forms of two clauses; what is wrong with either one comes ahead of their having none.
func normals(a, b api.Clause) (m, n api.Clause, e api.Errno) {
	for _, c := range []api.Clause{a, b} {
		if e = check(c); e != api.OK {
			return nil, nil, e
		}
	}
	m, okA := normal(a)
	n, okB := normal(b)
	if !okA || !okB {
		return nil, nil, api.ErrTaut
	}
	return m, n, api.OK
}

// missing is the literals of a normal clause that another one has not.
func missing(m, n api.Clause) []int {
	var out []int
	for _, x := range m {
		if !has(n, x) {
			out = append(out, x)
		}
	}
	return out
}
