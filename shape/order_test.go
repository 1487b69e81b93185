package shape_test

import (
	"math/rand"
	"slices"
	"testing"

	"trestle/api"
	"trestle/samples"
	"trestle/shape"
)

// 3.1, 3.2: all circuits of an input and three gates, in each order of their Outs: those that come round are refused, of the others Order is as the chapter's words say.
func TestAllSmallCircuits(t *testing.T) {
	for _, outs := range [][3]int{{4, 6, 8}, {4, 8, 6}, {6, 4, 8}, {6, 8, 4}, {8, 4, 6}, {8, 6, 4}} {
		for x := range 5 * 5 * 5 * 5 * 5 * 5 {
			c := api.Circuit{Max: 4, Inputs: []int{2}}
			for _, out := range outs {
				c.Ands = append(c.Ands, api.And{Out: out, Left: x%5*2 + 1, Right: x/5%5*2 + x%2})
				x /= 25
			}
			at, want := cycleOf(c)
			if n, e := shape.Check(c); n != at || e != want {
				t.Fatalf("%v: %d, %v, want %d, %v", c.Ands, n, e, at, want)
			}
			l, e := shape.Order(c)
			if e != want || e != api.OK && len(l) != 0 || e == api.OK && !slices.Equal(l, orderOf(c)) {
				t.Fatalf("%v: Order %v, %v", c.Ands, l, e)
			}
		}
	}
}

// gates is a circuit of an input 2 and gates 4, 6, 8 and so on, each of two literals.
func gates(two ...[2]int) api.Circuit {
	c := api.Circuit{Max: len(two) + 1, Inputs: []int{2}}
	for i, x := range two {
		c.Ands = append(c.Ands, api.And{Out: 2*i + 4, Left: x[0], Right: x[1]})
	}
	return c
}

// 3.1: the first gate that comes round is told, not one that but leads to it, or to which it leads.
func TestCycles(t *testing.T) {
	for i, x := range []struct {
		c  api.Circuit
		at int
	}{
		{gates([2]int{4, 2}), 0}, {gates([2]int{2, 5}), 0}, {gates([2]int{5, 4}), 0},
		{gates([2]int{6, 2}, [2]int{2, 7}), 1},
		{gates([2]int{6, 8}, [2]int{2, 2}, [2]int{9, 2}), 2},
		{gates([2]int{2, 2}, [2]int{4, 9}, [2]int{4, 6}), 1},
		{gates([2]int{6, 6}, [2]int{8, 2}, [2]int{6, 10}, [2]int{3, 3}), 1},
		{gates([2]int{6, 8}, [2]int{10, 12}, [2]int{12, 10}, [2]int{2, 13}, [2]int{2, 12}), 4},
		{gates([2]int{6, 10}, [2]int{7, 2}, [2]int{10, 2}, [2]int{9, 2}), 1},
		// Two rounds with a gate between them, which comes round neither way.
		{gates([2]int{6, 2}, [2]int{8, 2}, [2]int{10, 2}, [2]int{8, 6}), 1},
		{gates([2]int{12, 2}, [2]int{4, 8}, [2]int{6, 2}, [2]int{12, 2}, [2]int{14, 2}, [2]int{12, 2}), 1},
		// A group that is met again after it was left.
		{gates([2]int{6, 8}, [2]int{8, 2}, [2]int{10, 2}, [2]int{2, 2}, [2]int{4, 14}, [2]int{12, 2}), 4},
	} {
		if at, e := cycleOf(x.c); at != x.at || e != api.ErrCycle {
			t.Errorf("%d: the words say %d, %v, want %d", i, at, e, x.at)
		}
		checks(t, i, x.c, x.at, api.ErrCycle)
	}
}

// 3.1: gates that come round over as many as there may be; chains of them, the whole length or the end alone coming round.
func TestLongCycles(t *testing.T) {
	const n = api.MaxVar - 1
	checks(t, "a chain", chain(n, 2), 0, api.OK)
	checks(t, "a ring", chain(n, 4), 0, api.ErrCycle)
	checks(t, "a ring to its middle", chain(n, n+n%2), (n+n%2-4)/2, api.ErrCycle)
	checks(t, "a ring of two", chain(n, 2*n), n-2, api.ErrCycle)
	checks(t, "the last alone", chain(n, 2*n+2), n-1, api.ErrCycle)
	back := chain(n, 4)
	slices.Reverse(back.Ands)
	checks(t, "a ring the other way", back, 0, api.ErrCycle)
	back = chain(n, 8)
	slices.Reverse(back.Ands)
	checks(t, "all but two the other way", back, 0, api.ErrCycle)
	back.Ands[0], back.Ands[n-1] = back.Ands[n-1], back.Ands[0]
	checks(t, "one of the two first", back, 1, api.ErrCycle)
}

// 3.2: gates that wait, and that are let go in the order of their numbers.
func TestOrderByExample(t *testing.T) {
	for i, x := range []struct {
		c    api.Circuit
		want []int
	}{
		{api.Circuit{}, nil},
		{api.Circuit{Max: 2, Inputs: []int{4}, Outputs: []int{5}}, nil},
		{gates([2]int{2, 2}), []int{0}},
		{gates([2]int{2, 3}, [2]int{4, 4}, [2]int{1, 0}), []int{0, 1, 2}},
		{gates([2]int{8, 8}, [2]int{2, 2}, [2]int{2, 2}), []int{1, 2, 0}},
		{gates([2]int{10, 8}, [2]int{12, 2}, [2]int{2, 2}, [2]int{2, 2}, [2]int{3, 3}), []int{2, 3, 0, 4, 1}},
		{gates([2]int{6, 8}, [2]int{10, 10}, [2]int{10, 2}, [2]int{2, 2}), []int{3, 1, 2, 0}},
		{gates([2]int{6, 2}, [2]int{8, 2}, [2]int{10, 2}, [2]int{2, 2}, [2]int{2, 2}), []int{3, 2, 1, 0, 4}},
		{gates([2]int{14, 14}, [2]int{14, 12}, [2]int{2, 2}, [2]int{15, 2}, [2]int{2, 2}, [2]int{2, 2}), []int{2, 4, 5, 0, 1, 3}},
		{samples.Right(), []int{1, 2, 0, 3}},
	} {
		if l, e := shape.Order(x.c); !slices.Equal(l, x.want) || e != api.OK {
			t.Errorf("%d: %v, %v, want %v", i, l, e, x.want)
		}
	}
}

// 3.2, 3.6: circuits by chance: each gate stands once, behind those that it uses, the least one that may come always first.
func TestOrderByChance(t *testing.T) {
	r := rand.New(rand.NewSource(32))
	for range 5000 {
		c := samples.Circuit(r.Intn)
		l, e := shape.Order(c)
		if e != api.OK || !slices.Equal(l, orderOf(c)) {
			t.Fatalf("%+v: %v, %v, want %v", c, l, e, orderOf(c))
		}
		place := map[int]int{}
		for k, i := range l {
			place[c.Ands[i].Out/2] = k + 1
		}
		for _, g := range c.Ands {
			own := place[g.Out/2]
			if own == 0 || place[g.Left/2] >= own || place[g.Right/2] >= own {
				t.Fatalf("%v of %+v: %v", l, c.Ands, g)
			}
		}
		if len(l) != len(c.Ands) {
			t.Fatalf("%v of %d gates", l, len(c.Ands))
		}
	}
}

// 3.2: chains of as many gates as there may be, each ahead of what it uses, and each behind; gates that all wait for the last one.
func TestOrderOfManyGates(t *testing.T) {
	const n = api.MaxVar - 1
	var rising, falling []int
	for i := range n {
		rising, falling = append(rising, i), append(falling, n-1-i)
	}
	ahead, behind, wide := chain(n, 2), chain(n, 1), chain(n, 3)
	slices.Reverse(behind.Ands)
	for i := range n - 1 {
		wide.Ands[i].Left, wide.Ands[i].Right = wide.Ands[n-1].Out, wide.Ands[n-1].Out
	}
	for name, x := range map[string]struct {
		c    api.Circuit
		want []int
	}{
		"ahead": {ahead, falling}, "behind": {behind, rising}, "wide": {wide, append([]int{n - 1}, rising[:n-1]...)},
	} {
		if l, e := shape.Order(x.c); !slices.Equal(l, x.want) || e != api.OK {
			t.Errorf("%s: %d gates, %v", name, len(l), e)
		}
	}
}
