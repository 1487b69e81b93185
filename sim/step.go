package sim

import "trestle/api"

// ofFairness stands in a spot in place of a justice property's number.
const ofFairness = -1

// valuesOf is the values of all variables; the gates are told in an order in which each one stands behind those that it uses.
func valuesOf(c api.Circuit, gates []int, state, row []bool) []bool {
	values := make([]bool, c.Max+1)
	is := asker(values)
	for i, l := range c.Inputs {
		values[l/2] = row[i]
	}
	for i, l := range c.Latches {
		values[l.Lit/2] = state[i]
	}
	for i := range len(gates) {
		g := c.Ands[gates[i]]
		values[g.Out/2] = is(g.Left) && is(g.Right)
	}
	return values
}

// asker tells of a literal whether it is true, by the values as they are when it is asked.
func asker(values []bool) func(l int) bool {
	return func(l int) bool {
		negated := l%2 == 1
		return values[l/2] != negated
	}
}

// nextOf is the state behind a step.
func nextOf(c api.Circuit, is func(l int) bool) []bool {
	next := make([]bool, len(c.Latches))
	for i, l := range c.Latches {
		next[i] = is(l.Next)
	}
	return next
}

// holdsBy tells whether all constraints are true in a step.
func holdsBy(c api.Circuit, is func(l int) bool) bool {
	for _, l := range c.Constraints {
		if !is(l) {
			return false
		}
	}
	return true
}

// momentOf is what there is to tell of a step. The moment keeps the state.
func momentOf(c api.Circuit, state []bool, is func(l int) bool) api.Moment {
	var fair []api.Spot
	spots := func(at int, list []int) {
		for _, in := range placesOf(list, is) {
			fair = append(fair, api.Spot{At: at, In: in})
		}
	}
	for at, j := range c.Justice {
		spots(at, j)
	}
	spots(ofFairness, c.Fairness)
	return api.Moment{State: state, Holds: holdsBy(c, is), Bads: placesOf(c.Bads, is), Fair: fair}
}

// placesOf is the places in a list of the literals that are true, rising.
func placesOf(list []int, is func(l int) bool) []int {
	var places []int
	for i, l := range list {
		if is(l) {
			places = append(places, i)
		}
	}
	return places
}
