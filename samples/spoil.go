package samples

import (
	"slices"
	"strconv"

	"trestle/api"
)

// Fill writes over all that belongs to a list, spare room too.
func Fill[T any](l []T, by T) {
	l = l[:cap(l)]
	for i := range l {
		l[i] = by
	}
}

// Lists is all lists of numbers of a circuit, each with its spare room: where one of them is written over, no other one may change.
func Lists(c api.Circuit) [][]int {
	all := [][]int{c.Inputs, c.Outputs, c.Bads, c.Constraints, c.Fairness}
	all = append(all, c.Justice[:cap(c.Justice)]...)
	for i, l := range all {
		all[i] = l[:cap(l)]
	}
	return all
}

// What is written over lists, and what stands in the spare room of guarded ones: they are not alike, so that the one is seen where the other was.
const (
	spoilt = 99
	guard  = 98
)

// Spoil writes over all that belongs to a circuit's lists, spare room too: what shares memory with it is not the same any more.
func Spoil(c api.Circuit) { spoilBy(c, spoilt) }

// spoilBy writes a number over all that belongs to a circuit's lists, spare room too.
func spoilBy(c api.Circuit, by int) {
	for _, l := range Lists(c) {
		Fill(l, by)
	}
	Fill(c.Justice, []int{by})
	Fill(c.Latches, api.Latch{Lit: by})
	Fill(c.Ands, api.And{Out: by})
	Fill(c.Symbols, api.Symbol{Kind: 'z', At: by})
	Fill(c.Comments, strconv.Itoa(by))
}

// Whole is a circuit's members with all that stands in the spare room of its lists.
func Whole(c api.Circuit) api.Circuit {
	justice := slices.Clone(c.Justice[:cap(c.Justice)])
	for i, j := range justice {
		justice[i] = j[:cap(j)]
	}
	return Clone(api.Circuit{
		Max: c.Max, Inputs: c.Inputs[:cap(c.Inputs)], Latches: c.Latches[:cap(c.Latches)], Outputs: c.Outputs[:cap(c.Outputs)], Bads: c.Bads[:cap(c.Bads)],
		Constraints: c.Constraints[:cap(c.Constraints)], Justice: justice, Fairness: c.Fairness[:cap(c.Fairness)], Ands: c.Ands[:cap(c.Ands)],
		Symbols: c.Symbols[:cap(c.Symbols)], Comments: c.Comments[:cap(c.Comments)],
	})
}

// Guarded is a clone with something in the spare room of its lists.
func Guarded(c api.Circuit) api.Circuit {
	g := Clone(c)
	spoilBy(g, guard)
	g.Inputs, g.Outputs, g.Bads = append(g.Inputs[:0], c.Inputs...), append(g.Outputs[:0], c.Outputs...), append(g.Bads[:0], c.Bads...)
	g.Constraints, g.Fairness = append(g.Constraints[:0], c.Constraints...), append(g.Fairness[:0], c.Fairness...)
	g.Latches, g.Ands = append(g.Latches[:0], c.Latches...), append(g.Ands[:0], c.Ands...)
	g.Symbols, g.Comments = append(g.Symbols[:0], c.Symbols...), append(g.Comments[:0], c.Comments...)
	g.Justice = g.Justice[:0]
	for _, j := range c.Justice {
		one := append(slices.Clone(j), guard, guard)
		g.Justice = append(g.Justice, one[:len(j)])
	}
	return g
}
