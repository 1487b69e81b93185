package samples

import "trestle/api"

// Fill writes over all that belongs to a list, spare room too.
func Fill[T any](l []T, by T) {
	l = l[:cap(l)]
	for i := range l {
		l[i] = by
	}
}

// Lists is all lists of numbers of a circuit, each with its spare room: where one of them is written over, no other one may change.
func Lists(c api.Circuit) [][]int {
	all := [][]int{c.Inputs, c.Outputs, c.Bads, c.Constraints, c.Fairness}
	all = append(all, c.Justice[:cap(c.Justice)]...)
	for i, l := range all {
		all[i] = l[:cap(l)]
	}
	return all
}

// Spoil writes over all that belongs to a circuit's lists, spare room too: what shares memory with it is not the same any more.
func Spoil(c api.Circuit) {
	for _, l := range Lists(c) {
		Fill(l, 99)
	}
	Fill(c.Justice, []int{99})
	Fill(c.Latches, api.Latch{Lit: 99})
	Fill(c.Ands, api.And{Out: 99})
	Fill(c.Symbols, api.Symbol{Kind: 'z'})
	Fill(c.Comments, "spoilt")
}
