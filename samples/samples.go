// Package samples is for the tests of the layers' packages: it makes circuits, right and wrong ones, texts of them, traces, and formulas, goes over all of a circuit's steps and of a formula's models, and guards the memory of arguments and writes over that of answers.
package samples

import (
	"trestle/api"
	"trestle/shape"
)

// The least bytes of names and of comments here.
const (
	firstOfName    = ' '
	firstOfComment = '\n' + 1
)

// Circuit is a right circuit (see shared/doc/03-shape.md) of a few inputs, latches and gates, with any variables, in any order, and a few of all other things. What it has hangs on pick alone, which picks a number from 0 to n - 1.
func Circuit(pick func(n int) int) api.Circuit {
	inputs, latches, gates := pick(4), pick(4), pick(12)
	things := inputs + latches + gates
	c := api.Circuit{Max: things + pick(4)}
	m := maker{pick: pick, known: literals(c.Max)}
	shuffle(pick, m.known)
	m.known = m.known[:things]
	c.Inputs = append(c.Inputs, m.known[:inputs]...)
	for _, out := range m.known[inputs : inputs+latches] {
		reset := [...]int{0, 1, out}[pick(3)]
		c.Latches = append(c.Latches, api.Latch{Lit: out, Next: m.literal(things), Reset: reset})
	}
	for i := inputs + latches; i < things; i++ {
		c.Ands = append(c.Ands, api.And{Out: m.known[i], Left: m.literal(i), Right: m.literal(i)})
	}
	shuffle(pick, c.Ands)
	c.Outputs, c.Bads, c.Constraints, c.Fairness = m.list(), m.list(), m.list(), m.list()
	for range pick(4) {
		c.Justice = append(c.Justice, m.list())
	}
	c.Symbols = m.symbols(c)
	for range pick(3) {
		c.Comments = append(c.Comments, m.text(0, firstOfComment))
	}
	return c
}

// TwoGates is all right circuits of two gates over an input and a latch; of the gates the one that stands first may use the other one.
func TwoGates() []api.Circuit {
	var all []api.Circuit
	for _, first := range AllLists(2, 0, 1, 2, 3, 4, 5, 8, 9) {
		for _, second := range AllLists(2, 0, 1, 2, 3, 4, 5) {
			all = append(all, api.Circuit{
				Max: 4, Inputs: []int{2}, Latches: []api.Latch{{Lit: 4, Next: 7}}, Bads: []int{6, 9},
				Ands: []api.And{{Out: 6, Left: first[0], Right: first[1]}, {Out: 8, Left: second[0], Right: second[1]}},
			})
		}
	}
	return all
}

// TwoVariables is all right circuits of two variables, each of which is an input, a latch, a gate, or nothing, with one constraint or none; of the two the second one stands first in the lists.
func TwoVariables() []api.Circuit {
	var all []api.Circuit
	for _, first := range defining(4) {
		for _, second := range defining(2) {
			for limit := -1; limit <= 5; limit++ {
				c := api.Circuit{Max: 2}
				first(&c)
				second(&c)
				if limit >= 0 {
					c.Constraints = []int{limit}
				}
				if _, e := shape.Check(c); e == api.OK {
					all = append(all, c)
				}
			}
		}
	}
	return all
}

// defining is what puts a literal into a circuit of two variables as anything that it may be, right or not.
func defining(l int) []func(c *api.Circuit) {
	all := []func(c *api.Circuit){
		func(*api.Circuit) {},
		func(c *api.Circuit) { c.Inputs = append(c.Inputs, l) },
	}
	for _, two := range AllLists(2, 0, 1, 2, 3, 4, 5) {
		if reset := two[1]; reset <= 1 || reset == l {
			all = append(all, func(c *api.Circuit) { c.Latches = append(c.Latches, api.Latch{Lit: l, Next: two[0], Reset: reset}) })
		}
		all = append(all, func(c *api.Circuit) { c.Ands = append(c.Ands, api.And{Out: l, Left: two[0], Right: two[1]}) })
	}
	return all
}

// AllLiterals is all literals of a circuit, rising.
func AllLiterals(c api.Circuit) []int {
	all := []int{0, 1}
	for _, l := range literals(c.Max) {
		all = append(all, l, l+1)
	}
	return all
}

// SomeLiterals is a few literals of a circuit, or none; one may stand there twice.
func SomeLiterals(c api.Circuit, pick func(n int) int) []int {
	out := make([]int, pick(5))
	for i := range out {
		out[i] = pick(2*c.Max + 2)
	}
	return out
}

// maker makes a circuit's parts.
type maker struct {
	pick  func(n int) int
	known []int // what is defined; a gate may use what stands ahead of it
}

// literal is a literal of one of the first n that are known, or of none.
func (m maker) literal(n int) int {
	k := m.pick(n + 1)
	if k == n {
		return m.pick(2)
	}
	return m.known[k] + m.pick(2)
}

// list is a few literals.
func (m maker) list() []int {
	out := make([]int, m.pick(4))
	for i := range out {
		out[i] = m.literal(len(m.known))
	}
	return out
}

// symbols names some of a circuit's things.
func (m maker) symbols(c api.Circuit) []api.Symbol {
	var all []api.Symbol
	for _, kind := range [...]struct {
		letter byte
		count  int
	}{
		{api.SInput, len(c.Inputs)}, {api.SLatch, len(c.Latches)}, {api.SOutput, len(c.Outputs)}, {api.SBad, len(c.Bads)},
		{api.SConstraint, len(c.Constraints)}, {api.SJustice, len(c.Justice)}, {api.SFairness, len(c.Fairness)},
	} {
		for at := range kind.count {
			if m.pick(3) == 0 {
				all = append(all, api.Symbol{Kind: kind.letter, At: at, Name: m.text(1, firstOfName)})
			}
		}
	}
	shuffle(m.pick, all)
	return all
}

// text is bytes that are not below from, at least least of them.
func (m maker) text(least int, from int) string {
	out := make([]byte, least+m.pick(4))
	for i := range out {
		out[i] = byte(from + m.pick(256-from))
	}
	return string(out)
}

// literals is the literals of the variables up to most, not negated.
func literals(most int) []int {
	out := make([]int, most)
	for i := range out {
		out[i] = 2 * (i + 1)
	}
	return out
}

// shuffle puts a list into any order.
func shuffle[T any](pick func(n int) int, list []T) {
	for i := range list {
		k := pick(i + 1)
		list[i], list[k] = list[k], list[i]
	}
}
