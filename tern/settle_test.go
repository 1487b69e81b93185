package tern_test

import (
	"math/rand"
	"slices"
	"testing"

	"trestle/api"
	"trestle/samples"
)

// 8.2: latches of all resets: 0, 1, and their own literals.
func TestResets(t *testing.T) {
	for _, want := range allRows(3) {
		c := api.Circuit{Max: 4, Inputs: []int{4}}
		for i, lit := range [3]int{8, 2, 6} {
			c.Latches = append(c.Latches, api.Latch{Lit: lit, Next: 1, Reset: [...]int{0, 1, lit}[want[i]]})
		}
		resets(t, c, want)
	}
	resets(t, api.Circuit{}, nil)
	resets(t, api.Circuit{Max: 2, Inputs: []int{2, 4}}, nil)
	resets(t, samples.Right(), row("210"))
	c := shifter()
	want := make([]int, len(c.Latches))
	for i, l := range c.Latches {
		want[i] = i % 3
		c.Latches[i].Reset = [...]int{0, 1, l.Lit}[i%3]
	}
	resets(t, c, want)
}

// 8.2: rows of all values, of none, and as many as there may be.
func TestJoin(t *testing.T) {
	joins(t, row("012"), row("002"), row("022"))
	joins(t, nil, []int{}, nil)
	for _, a := range allRows(2) {
		for _, b := range allRows(2) {
			joins(t, a, b, joinOf(a, b))
		}
	}
	joins(t, row("000111222"), row("012012012"), row("022212222"))
	r := rand.New(rand.NewSource(85))
	for _, n := range []int{1, 7, 64, 1000, api.MaxItems} {
		a, b := someRow(n, r.Intn), someRow(n, r.Intn)
		joins(t, a, b, joinOf(a, b))
		joins(t, a, a, a)
		joins(t, a, twos(n), twos(n))
	}
}

// 8.3: the examples of the chapter: a latch that stays, one that turns, one whose Next is an input.
func TestSettleByExample(t *testing.T) {
	settles(t, api.Circuit{Max: 1, Latches: []api.Latch{{Lit: 2, Next: 2}}}, row("0"), 0)
	settles(t, api.Circuit{Max: 1, Latches: []api.Latch{{Lit: 2, Next: 3}}}, row("2"), 1)
	settles(t, api.Circuit{Max: 2, Inputs: []int{2}, Latches: []api.Latch{{Lit: 4, Next: 2}}}, row("2"), 1)
	settles(t, api.Circuit{}, nil, 0)
	settles(t, api.Circuit{Max: 3, Inputs: []int{4}}, nil, 0)
	// Without a change: of any reset, by what is constant, and by what is 2 from the beginning.
	settles(t, api.Circuit{Max: 1, Latches: []api.Latch{{Lit: 2, Next: 2, Reset: 1}}}, row("1"), 0)
	settles(t, api.Circuit{Max: 1, Latches: []api.Latch{{Lit: 2, Next: 1, Reset: 1}}}, row("1"), 0)
	settles(t, api.Circuit{Max: 1, Latches: []api.Latch{{Lit: 2, Next: 1}}}, row("2"), 1)
	settles(t, api.Circuit{Max: 1, Latches: []api.Latch{{Lit: 2, Next: 0, Reset: 2}}}, row("2"), 0)
	settles(t, api.Circuit{Max: 1, Latches: []api.Latch{{Lit: 2, Next: 2, Reset: 2}}}, row("2"), 0)
	// A gate that is 0 whatever the input is; one that is always 0, but not by its two values.
	settles(t, api.Circuit{Max: 3, Inputs: []int{2}, Latches: []api.Latch{{Lit: 4, Next: 6}}, Ands: []api.And{{Out: 6, Left: 4, Right: 2}}}, row("0"), 0)
	settles(t, api.Circuit{Max: 3, Inputs: []int{2}, Latches: []api.Latch{{Lit: 4, Next: 6}}, Ands: []api.And{{Out: 6, Left: 2, Right: 3}}}, row("2"), 1)
}

// 8.3: what changes at once is one change; what follows of it is the next one.
func TestSettleByChanges(t *testing.T) {
	// Three latches behind one another, which all are 0 at first and take from an input.
	line := api.Circuit{Max: 4, Inputs: []int{2}, Latches: []api.Latch{{Lit: 4, Next: 2}, {Lit: 6, Next: 4}, {Lit: 8, Next: 6}}}
	settles(t, line, row("222"), 3)
	// The first and the third change at once; if the second begins with another value than the first, all do.
	line.Latches[2].Next = 9
	settles(t, line, row("222"), 2)
	line.Latches[1].Reset = 1
	settles(t, line, row("222"), 1)
	// The last one of the list is the first to change; the first one, which stays, is told ahead of it.
	back := api.Circuit{Max: 4, Latches: []api.Latch{{Lit: 2, Next: 2, Reset: 1}, {Lit: 4, Next: 6}, {Lit: 6, Next: 9}, {Lit: 8, Next: 3, Reset: 8}}}
	settles(t, back, row("1222"), 2)
	// A change that turns back on itself: 0, 0; then 2, 0; then 2, 2.
	ring := api.Circuit{Max: 2, Latches: []api.Latch{{Lit: 2, Next: 5}, {Lit: 4, Next: 2}}}
	settles(t, ring, row("22"), 2)
	settles(t, samples.Right(), row("222"), 2)
}

// 8.3: a gate stays what it is while one of its literals is 0, and is 2 when that has changed.
func TestSettleBehindGates(t *testing.T) {
	c := api.Circuit{
		Max: 6, Latches: []api.Latch{{Lit: 2, Next: 3}, {Lit: 4, Next: 8}, {Lit: 6, Next: 10}},
		Ands: []api.And{{Out: 10, Left: 12, Right: 1}, {Out: 12, Left: 4, Right: 4}, {Out: 8, Left: 2, Right: 7}},
	}
	// 2 turns; 8 is 2 from then on, and 4 too; 10 follows 4; then 6.
	settles(t, c, row("222"), 3)
	c.Ands[2].Right = 6 // never but 0
	settles(t, c, row("200"), 1)
}

// 8.3: all circuits of two latches and a gate, by all resets.
func TestSettleOfTwoLatches(t *testing.T) {
	for n := range 9 * 10 * 10 * 8 * 8 {
		resets := n % 9
		c := api.Circuit{
			Max: 4, Inputs: []int{2},
			Latches: []api.Latch{{Lit: 4, Next: n / 9 % 10, Reset: [...]int{0, 1, 4}[resets%3]}, {Lit: 6, Next: n / 90 % 10, Reset: [...]int{0, 1, 6}[resets/3]}},
			Ands:    []api.And{{Out: 8, Left: n / 900 % 8, Right: n / 7200}},
		}
		want, times := settleOf(c)
		settles(t, c, want, times)
	}
}

// 8.3: circuits by chance settle as the chapter's words say, behind each number of changes that they can have.
func TestSettleByChance(t *testing.T) {
	r := rand.New(rand.NewSource(86))
	seen := map[int]int{}
	for range 20000 {
		c := samples.Circuit(r.Intn)
		want, times := settleOf(c)
		settles(t, c, want, times)
		seen[times]++
	}
	if min(seen[0], seen[1], seen[2], seen[3]) < 10 || len(seen) != 4 {
		t.Errorf("changes: %v", seen)
	}
}

// 8.3: circuits of many latches, of which few take from inputs, settle as the chapter's words say.
func TestSettleOfManyLatches(t *testing.T) {
	r := rand.New(rand.NewSource(87))
	most := 0
	for range 300 {
		c := many(30, 20, r.Intn)
		want, times := settleOf(c)
		settles(t, c, want, times)
		most = max(most, times)
	}
	if most < 6 {
		t.Errorf("no more than %d changes", most)
	}
}

// many is a circuit of an input, of so many latches, each of which takes from any one or from a gate, and of so many gates of two of these.
func many(latches, gates int, pick func(n int) int) api.Circuit {
	c := api.Circuit{Max: 1 + latches + gates, Inputs: []int{2}}
	for i := range latches {
		lit := 2 * (i + 2)
		c.Latches = append(c.Latches, api.Latch{Lit: lit, Next: 2 + pick(2*c.Max), Reset: [...]int{0, 0, 0, 1, lit}[pick(5)]})
	}
	for i := range gates {
		c.Ands = append(c.Ands, api.And{Out: 2 * (i + 2 + latches), Left: 2 + pick(2*latches+2), Right: 2 + pick(2*latches+2)})
	}
	return c
}

// 8.3: as many latches as there may be, one change behind the other, in the order of the list, and against it.
func TestSettleOfMost(t *testing.T) {
	c := shifter()
	for range 2 {
		settles(t, c, twos(len(c.Latches)), len(c.Latches))
		slices.Reverse(c.Latches)
	}
	// Half of them are gates between.
	c = api.Circuit{Max: api.MaxVar}
	for v := 1; v < api.MaxVar; v += 2 {
		c.Latches = append(c.Latches, api.Latch{Lit: 2 * v, Next: max(2*v-2, 3)})
		c.Ands = append(c.Ands, api.And{Out: 2*v + 2, Left: 2 * v, Right: 1})
	}
	settles(t, c, twos(len(c.Latches)), len(c.Latches))
	// None changes: the first one stays.
	c.Latches[0].Next = 2
	settles(t, c, make([]int, len(c.Latches)), 0)
}
