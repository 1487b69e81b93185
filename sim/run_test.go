package sim_test

import (
	"math/rand"
	"slices"
	"testing"

	"trestle/api"
	"trestle/samples"
)

// 7.3: the example of the chapter: the latch that turns, over two steps.
func TestRunOfTurning(t *testing.T) {
	want := []api.Moment{{State: samples.Bits("0"), Holds: true}, {State: samples.Bits("1"), Holds: true, Bads: []int{0}}}
	runs(t, turning(), api.Trace{Init: samples.Bits("0"), Inputs: rows("", ""), Loop: -1}, want)
}

// 7.3: a run of a circuit with something of all: several bads, justice properties of no, one and several literals, fairness.
func TestRunByHand(t *testing.T) {
	// The latch 4 takes the input 2, 6 takes 4; the gate 8: both latches.
	c := api.Circuit{
		Max: 4, Inputs: []int{2}, Latches: []api.Latch{{Lit: 4, Next: 2}, {Lit: 6, Next: 4, Reset: 1}}, Ands: []api.And{{Out: 8, Left: 4, Right: 6}},
		Bads: []int{8, 1, 5, 0, 8}, Constraints: []int{9, 1}, Justice: [][]int{{}, {4, 6, 5}, {9}, {}, {8, 8}}, Fairness: []int{3, 2, 1},
	}
	want := []api.Moment{
		{State: samples.Bits("01"), Holds: true, Bads: []int{1, 2}, Fair: []api.Spot{{At: 1, In: 1}, {At: 1, In: 2}, {At: 2}, {At: -1, In: 1}, {At: -1, In: 2}}},
		{State: samples.Bits("10"), Holds: true, Bads: []int{1}, Fair: []api.Spot{{At: 1}, {At: 2}, {At: -1, In: 1}, {At: -1, In: 2}}},
		{State: samples.Bits("11"), Bads: []int{0, 1, 4}, Fair: []api.Spot{{At: 1}, {At: 1, In: 1}, {At: 4}, {At: 4, In: 1}, {At: -1}, {At: -1, In: 2}}},
		{State: samples.Bits("01"), Holds: true, Bads: []int{1, 2}, Fair: []api.Spot{{At: 1, In: 1}, {At: 1, In: 2}, {At: 2}, {At: -1}, {At: -1, In: 2}}},
	}
	tr := api.Trace{Init: samples.Bits("01"), Inputs: rows("1", "1", "0", "0"), Loop: -1}
	runs(t, c, tr, want)
	// Of one row; and Loop changes nothing, wherever it goes back, and whether it is closed or not.
	runs(t, c, api.Trace{Init: tr.Init, Inputs: tr.Inputs[:1]}, want[:1])
	for loop := -1; loop < 4; loop++ {
		tr.Loop = loop
		runs(t, c, tr, want)
	}
}

// 7.3: a run goes on from a state that may not begin, and behind steps that do not hold.
func TestRunOfWhatMayNotBe(t *testing.T) {
	c := turning()
	c.Constraints = []int{3}
	starts(t, c, samples.Bits("1"), false)
	want := []api.Moment{{State: samples.Bits("1"), Bads: []int{0}}, {State: samples.Bits("0"), Holds: true}, {State: samples.Bits("1"), Bads: []int{0}}}
	runs(t, c, api.Trace{Init: samples.Bits("1"), Inputs: rows("", "", ""), Loop: 1}, want)
	c.Constraints = []int{0}
	for i := range want {
		want[i].Holds = false
	}
	runs(t, c, api.Trace{Init: samples.Bits("1"), Inputs: rows("", "", ""), Loop: 0}, want)
}

// 7.3: a run of as many rows as there may be: what goes in comes out two steps later.
func TestLongestRun(t *testing.T) {
	c := api.Circuit{Max: 3, Inputs: []int{2}, Latches: []api.Latch{{Lit: 4, Next: 2}, {Lit: 6, Next: 4}}, Bads: []int{6}, Constraints: []int{5}, Fairness: []int{7}}
	tr := samples.Trace(c, api.MaxFrames, rand.New(rand.NewSource(73)).Intn)
	in := append([]bool{tr.Init[1], tr.Init[0]}, slices.Concat(tr.Inputs...)...)
	var want []api.Moment
	for i := range api.MaxFrames {
		m := api.Moment{State: []bool{in[i+1], in[i]}, Holds: !in[i+1]}
		if in[i] {
			m.Bads = []int{0}
		} else {
			m.Fair = []api.Spot{{At: -1}}
		}
		want = append(want, m)
	}
	for _, loop := range []int{-1, 0, api.MaxFrames - 1} {
		tr.Loop = loop
		runs(t, c, tr, want)
	}
}

// 7.3: as many bads, justice properties, literals of them and fairness as there may be.
func TestMostMoments(t *testing.T) {
	const n = api.MaxItems
	ones := slices.Repeat([]int{1}, n)
	c := turning()
	c.Bads, c.Fairness, c.Constraints = ones, ones, ones
	c.Justice = append(slices.Repeat([][]int{nil}, n-2), ones[:n-1], []int{2})
	want := api.Moment{State: samples.Bits("0"), Holds: true}
	for i := range n {
		want.Bads = append(want.Bads, i)
	}
	for i := range n - 1 {
		want.Fair = append(want.Fair, api.Spot{At: n - 2, In: i})
	}
	second := api.Moment{State: samples.Bits("1"), Holds: true, Bads: want.Bads, Fair: append(slices.Clone(want.Fair), api.Spot{At: n - 1})}
	for i := range n {
		want.Fair = append(want.Fair, api.Spot{At: -1, In: i})
		second.Fair = append(second.Fair, api.Spot{At: -1, In: i})
	}
	runs(t, c, api.Trace{Init: samples.Bits("0"), Inputs: rows("", ""), Loop: -1}, []api.Moment{want, second})
	wide := shifter()
	state := samples.Truths(len(wide.Latches), rand.New(rand.NewSource(74)).Intn)
	later := append(samples.Bits("1"), state[:len(state)-1]...)
	runs(t, wide, api.Trace{Init: state, Inputs: rows("1", "0")}, []api.Moment{{State: state, Holds: true}, {State: later, Holds: true}})
}

// 7.3: circuits and traces by chance: runs are what the chapter's words say.
func TestRunsByChance(t *testing.T) {
	r := rand.New(rand.NewSource(75))
	var began, held, bad, just, fair, all int
	for range 4000 {
		c := samples.Circuit(r.Intn)
		tr := samples.Trace(c, 1+r.Intn(12), r.Intn)
		want := runOf(c, tr)
		runs(t, c, tr, want)
		if startsOf(c, tr.Init) {
			began++
		}
		for _, m := range want {
			all++
			if m.Holds {
				held++
			}
			bad += min(1, len(m.Bads))
			just += min(1, len(m.Fair))
			if len(m.Fair) > 0 && m.Fair[len(m.Fair)-1].At == -1 {
				fair++
			}
		}
	}
	if began < 500 || began > 3500 || min(held, bad, just, fair) < all/10 || max(held, bad, just, fair) > all*9/10 {
		t.Errorf("%d began; of %d steps %d hold, %d are bad, %d just, %d fair", began, all, held, bad, just, fair)
	}
}
