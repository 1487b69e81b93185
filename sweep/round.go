package sweep

import (
	"trestle/api"
	"trestle/hash"
	"trestle/tern"
)

// either is layer 8's value of what may be 0 and may be 1.
const either = 2

// gone stands in place of the number of a latch that is left away.
const gone = -1

// round builds a circuit that was built anew once more, without the latches that are seen to be constant, or equal to one ahead of them; beside it stands of each variable the literal that it has become.
//
// A round of the chapter finds what is equal by the circuit that it is given; this one goes on with what it has found so, and does at once what would be a long row of them. They end in the same: what is seen to be constant or equal is so still when more is known, and of what is equal the first one stays.
func round(c api.Circuit) (api.Circuit, []int) {
	// The same variables are defined by what may define them: neither call refuses a right circuit.
	n, m, _ := hash.Build(without(c, becomes(c)))
	return n, m
}

// becomes gives of each latch what it becomes: 0, 1, the literal of one ahead of it, or its own.
func becomes(c api.Circuit) []int {
	settled, _, _ := tern.Settle(c)
	m := newMatcher(c)
	for i, l := range c.Latches {
		if settled[i] != either {
			m.unite(l.Lit, settled[i])
		}
	}
	m.match()
	first := map[int]int{0: 0, 1: 1}
	to := make([]int, len(c.Latches))
	for i, l := range c.Latches {
		is := m.of(l.Lit)
		if _, known := first[is]; !known {
			first[is] = l.Lit
		}
		to[i] = first[is]
	}
	return to
}

// without is a circuit in which a latch that has become something else is a gate, of that and 1: built anew it is no gate, and stands for nothing but what it has become. These gates come ahead of all others, so that those are told in the order that they had.
func without(c api.Circuit, to []int) api.Circuit {
	numbers := make([]int, len(c.Latches))
	var stay []api.Latch
	var gates []api.And
	for i, l := range c.Latches {
		if to[i] == l.Lit {
			numbers[i] = len(stay)
			stay = append(stay, l)
		} else {
			numbers[i] = gone
			gates = append(gates, api.And{Out: l.Lit, Left: to[i], Right: 1})
		}
	}
	c.Latches, c.Ands, c.Symbols = stay, append(gates, c.Ands...), named(c.Symbols, numbers)
	return c
}

// named is the symbols of what stays, those of latches with their new numbers.
func named(symbols []api.Symbol, numbers []int) []api.Symbol {
	var out []api.Symbol
	for _, s := range symbols {
		if s.Kind == api.SLatch {
			s.At = numbers[s.At]
		}
		if s.At != gone {
			out = append(out, s)
		}
	}
	return out
}
