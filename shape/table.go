package shape

import "trestle/api"

// table tells of each variable, from 0 to the greatest one, whether it is defined.
type table []bool

// newTable is the table in which nothing but the variable 0 is defined.
func newTable(most int) table {
	t := make(table, most+1)
	t[0] = true
	return t
}

// define puts the variable of a literal down that a thing defines.
func (t table) define(l int) api.Errno {
	if l < 2 || l%2 == 1 || l/2 >= len(t) {
		return api.ErrLit
	}
	if t[l/2] {
		return api.ErrTwice
	}
	t[l/2] = true
	return api.OK
}

// use says what is wrong with a literal that a thing uses.
func (t table) use(l int) api.Errno {
	if l < 0 || l/2 >= len(t) {
		return api.ErrLit
	}
	if !t[l/2] {
		return api.ErrLoose
	}
	return api.OK
}

// useAll says what is wrong first with a list of literals, and where it stands.
func (t table) useAll(list []int) (at int, e api.Errno) {
	for i, l := range list {
		if e := t.use(l); e != api.OK {
			return i, e
		}
	}
	return 0, api.OK
}
