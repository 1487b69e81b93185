package sweep_test

import (
	"slices"
	"testing"

	"trestle/api"
)

// most is how many latches there are where there are as many as there may be beside an input.
const most = api.MaxVar - 1

// afterInput is a circuit of an input and as many latches as there may be, each told as its Next and its Reset by its number.
func afterInput(of func(i int) [2]int) api.Circuit {
	all := make([][2]int, most)
	for i := range all {
		all[i] = of(i)
	}
	return api.Circuit{Max: api.MaxVar, Inputs: []int{2}, Latches: latches(4, all...), Bads: []int{2 * api.MaxVar}}
}

// 11.1: as many latches as there may be: all of them constant, all alike, alike by twos or threes, or each one another than all others.
func TestMostLatches(t *testing.T) {
	sweeps(t, afterInput(func(i int) [2]int { return [2]int{i % 2, i % 2} }), api.Circuit{Max: 1, Inputs: []int{2}, Bads: []int{0}}, append([]int{0, 2}, slices.Repeat([]int{0, 1}, most/2+1)[:most]...)...)
	one := api.Circuit{Max: 2, Inputs: []int{2}, Latches: latches(4, [2]int{2, 1}), Bads: []int{4}}
	sweeps(t, afterInput(func(int) [2]int { return [2]int{2, 1} }), one, append([]int{0, 2}, slices.Repeat([]int{4}, most)...)...)
	c := afterInput(func(i int) [2]int { return [2]int{2 + i%2, i / 2 % 2} })
	four := api.Circuit{Max: 5, Inputs: []int{2}, Latches: latches(4, [2]int{2, 0}, [2]int{3, 0}, [2]int{2, 1}, [2]int{3, 1}), Bads: []int{8}}
	sweeps(t, c, four, append([]int{0, 2}, slices.Repeat([]int{4, 6, 8, 10}, most/4+1)[:most]...)...)
	for _, c := range []api.Circuit{
		afterInput(func(i int) [2]int { return [2]int{2 * (i + 1), 0} }), afterInput(func(i int) [2]int { return [2]int{2, own} }),
		afterInput(func(i int) [2]int { return [2]int{2*(i+2) + 1, i % 2} }), afterInput(func(i int) [2]int { return [2]int{2 + 2*((i+2)%(most+1)), 0} }),
	} {
		sweeps(t, c, c, upTo(0, 2*api.MaxVar)...)
	}
}

// pairs is a circuit of an input and pairs of latches, of which each pair is what the pair ahead of it, or behind it, was, and the last one so what the input was.
func pairs(n int, behind bool) api.Circuit {
	c := api.Circuit{Max: 1 + 2*n, Inputs: []int{2}}
	for i := range n {
		for k := range 2 {
			next := 4*i + 2*k
			if behind {
				next = 4*i + 2*k + 8
			}
			c.Latches = append(c.Latches, api.Latch{Lit: 4*i + 2*k + 4, Next: next, Reset: i % 2})
		}
	}
	end := 0
	if behind {
		end = 2*n - 2
	}
	c.Latches[end].Next, c.Latches[end+1].Next = 2, 2
	return c
}

// 11.1: as many rounds as there may be, each of which leaves one latch away: the pairs are seen to be alike one behind the other, in the order of the list or against it.
func TestMostRounds(t *testing.T) {
	for _, n := range []int{1, 2, 3, 50} {
		for _, behind := range []bool{false, true} {
			if _, _, k := sweepOf(pairs(n, behind)); k != n {
				t.Errorf("%d pairs: %d rounds", n, k)
			}
			asWords(t, pairs(n, behind), api.Trace{})
		}
	}
	const n = (api.MaxVar - 1) / 2
	m := []int{0, 2}
	for i := range n {
		m = append(m, 2*i+4, 2*i+4)
	}
	for _, behind := range []bool{false, true} {
		want := api.Circuit{Max: 1 + n, Inputs: []int{2}}
		for i := range n {
			next := 2*i + 2
			if behind {
				next = 2*i + 6
			}
			want.Latches = append(want.Latches, api.Latch{Lit: 2*i + 4, Next: next, Reset: i % 2})
		}
		if behind {
			want.Latches[n-1].Next = 2
		}
		sweeps(t, pairs(n, behind), want, m...)
	}
}

// gatedPairs is a circuit of two inputs and pairs of latches, each of which is what the conjunction of one of the pair ahead and the second input was.
func gatedPairs(n int) api.Circuit {
	c := api.Circuit{Max: 2 + 4*n, Inputs: []int{2, 4}}
	last := [2]int{2, 2}
	for i := range n {
		for k := range 2 {
			gate := 6 + 8*i + 4*k
			c.Ands = append(c.Ands, api.And{Out: gate, Left: last[k], Right: 5})
			c.Latches = append(c.Latches, api.Latch{Lit: gate + 2, Next: gate})
			last[k] = gate + 2
		}
	}
	return c
}

// 11.1: as many rounds as there may be with gates: those of each pair are alike when its latches are.
func TestMostRoundsWithGates(t *testing.T) {
	asWords(t, gatedPairs(20), api.Trace{})
	n := (api.MaxVar - 2) / 4
	c, m := swept(t, gatedPairs(n))
	if len(c.Latches) != n || len(c.Ands) != n || c.Max != 2+2*n {
		t.Fatalf("%d latches, %d gates, Max %d", len(c.Latches), len(c.Ands), c.Max)
	}
	for i := range n {
		latch, gate, ahead := 6+2*i, 6+2*n+2*i, 4+2*i
		if i == 0 {
			ahead = 2
		}
		if c.Latches[i] != (api.Latch{Lit: latch, Next: gate}) || c.Ands[i] != (api.And{Out: gate, Left: max(5, ahead), Right: min(5, ahead)}) {
			t.Fatalf("the pair %d: %v, %v", i, c.Latches[i], c.Ands[i])
		}
		if at := 3 + 4*i; !slices.Equal(m[at:at+4], []int{gate, latch, gate, latch}) {
			t.Fatalf("the pair %d: %v", i, m[at:at+4])
		}
	}
}

// settlers is a circuit in which each latch of a row is seen to be constant but when two other ones are seen to be equal, which are so but when the latch ahead of it is constant.
func settlers(n int) api.Circuit {
	c := api.Circuit{Max: 2 + 4*n, Inputs: []int{2}, Latches: latches(4, [2]int{2, 0})}
	ahead := 0
	for i := range n {
		at := 6 + 8*i
		c.Ands = append(c.Ands, api.And{Out: at, Left: 2, Right: ahead + 1}, api.And{Out: at + 4, Left: at + 2, Right: 5})
		c.Latches = append(c.Latches, api.Latch{Lit: at + 2, Next: at}, api.Latch{Lit: at + 6, Next: at + 4})
		ahead = at + 6
	}
	return c
}

// 11.1: latches that are constant when others are equal, and equal when others are constant, by turns.
func TestConstantAndEqualByTurns(t *testing.T) {
	asWords(t, settlers(20), api.Trace{})
	n := (api.MaxVar - 2) / 4
	sweeps(t, settlers(n), api.Circuit{Max: 2, Inputs: []int{2}, Latches: latches(4, [2]int{2, 0})}, append([]int{0, 2, 4}, slices.Repeat([]int{2, 4, 0, 0}, n)...)...)
}

// 11.1: lists of as many members as there may be.
func TestLongLists(t *testing.T) {
	c := api.Circuit{Max: 2, Latches: latches(2, [2]int{3, 1}, [2]int{3, 1})}
	for i := range api.MaxItems {
		c.Outputs, c.Bads, c.Constraints = append(c.Outputs, 2+i%4), append(c.Bads, 4+i%2), append(c.Constraints, 5-i%2)
		c.Fairness, c.Comments, c.Justice = append(c.Fairness, i%6), append(c.Comments, "c"), append(c.Justice, []int{2 + i%4})
		c.Symbols = append(c.Symbols, api.Symbol{Kind: 'o', At: api.MaxItems - 1 - i, Name: "o"})
	}
	c.Symbols[7] = api.Symbol{Kind: 'l', At: 1, Name: "l"}
	asWords(t, c, api.Trace{Init: []bool{true}, Inputs: [][]bool{{}}})
}
