package tern_test

import (
	"math/rand"
	"slices"
	"testing"

	"trestle/api"
	"trestle/samples"
	"trestle/shape"
	"trestle/sim"
	"trestle/tern"
)

// covers tells whether a row covers a state, or an input row.
func covers(row []int, state []bool) bool {
	return slices.EqualFunc(row, state, func(v int, is bool) bool { return v == 2 || (v == 1) == is })
}

// covered is all states that a row covers.
func covered(row []int) [][]bool {
	out := [][]bool{{}}
	for _, v := range row {
		var longer [][]bool
		for _, l := range out {
			if v != 1 {
				longer = append(longer, append(slices.Clone(l), false))
			}
			if v != 0 {
				longer = append(longer, append(slices.Clone(l), true))
			}
		}
		out = longer
	}
	return out
}

// valuesBy, stepBy, liftBy and settledBy are what the calls tell of what is right.
func valuesBy(t *testing.T, c api.Circuit, latches, inputs []int) []int {
	t.Helper()
	v, e := tern.Values(c, latches, inputs)
	if e != api.OK {
		t.Fatalf("Values of %+v by %v, %v: %v", c, latches, inputs, e)
	}
	return v
}

func stepBy(t *testing.T, c api.Circuit, latches, inputs []int) []int {
	t.Helper()
	s, e := tern.Step(c, latches, inputs)
	if e != api.OK {
		t.Fatalf("Step of %+v by %v, %v: %v", c, latches, inputs, e)
	}
	return s
}

func liftBy(t *testing.T, c api.Circuit, latches, inputs, lits []int) []int {
	t.Helper()
	l, e := tern.Lift(c, latches, inputs, lits)
	if e != api.OK {
		t.Fatalf("Lift of %+v by %v, %v for %v: %v", c, latches, inputs, lits, e)
	}
	return l
}

func settledBy(t *testing.T, c api.Circuit) []int {
	t.Helper()
	l, _, e := tern.Settle(c)
	if e != api.OK {
		t.Fatalf("Settle of %+v: %v", c, e)
	}
	return l
}

// 8.5: where rows cover a state and an input row, each value that is not 2 is what layer 7 says there.
func TestRowsSayWhatStatesSay(t *testing.T) {
	r := rand.New(rand.NewSource(91))
	for n := range 2000 {
		c := samples.Circuit(r.Intn)
		rows := [][2][]int{{someRow(len(c.Latches), r.Intn), someRow(len(c.Inputs), r.Intn)}}
		if n < 60 {
			for _, latches := range allRows(len(c.Latches)) {
				for _, inputs := range allRows(len(c.Inputs)) {
					rows = append(rows, [2][]int{latches, inputs})
				}
			}
		}
		for _, x := range rows {
			sayWhatStatesSay(t, c, x[0], x[1])
		}
	}
}

// sayWhatStatesSay holds what is told of rows against layer 7, in all that they cover. A variable that nothing defines is 2 here.
func sayWhatStatesSay(t *testing.T, c api.Circuit, latches, inputs []int) {
	t.Helper()
	all, next := valuesBy(t, c, latches, inputs), stepBy(t, c, latches, inputs)
	for _, state := range covered(latches) {
		for _, row := range covered(inputs) {
			v, e := sim.Values(c, state, row)
			n, f := sim.Next(c, state, row)
			if e != api.OK || f != api.OK || !covers(all, v) || !covers(next, n) {
				t.Fatalf("%+v by %v, %v: %v, %v; in %v by %v: %v, %v", c, latches, inputs, all, next, state, row, v, n)
			}
		}
	}
}

// 8.5: by rows without a 2, values of what is defined by no variable that is not are as layer 7 says.
func TestRowsWithoutTwos(t *testing.T) {
	r := rand.New(rand.NewSource(92))
	for range 2000 {
		c := samples.Circuit(r.Intn)
		defined := make([]bool, c.Max+1)
		defined[0] = true
		for _, l := range c.Inputs {
			defined[l/2] = true
		}
		for _, l := range c.Latches {
			defined[l.Lit/2] = true
		}
		for _, g := range c.Ands {
			defined[g.Out/2] = true
		}
		state, in := samples.Truths(len(c.Latches), r.Intn), samples.Truths(len(c.Inputs), r.Intn)
		v, _ := sim.Values(c, state, in)
		for i, x := range valuesBy(t, c, rowBy(state), rowBy(in)) {
			if !defined[i] && x != 2 || defined[i] && (x == 2 || v[i] != (x == 1)) {
				t.Fatalf("the variable %d of %+v in %v by %v: %d, %v", i, c, state, in, x, v[i])
			}
		}
	}
}

// rowBy is the row that covers a state alone.
func rowBy(state []bool) []int {
	out := make([]int, len(state))
	for i, is := range state {
		if is {
			out[i] = 1
		}
	}
	return out
}

// looser is a row of which some values are made 2.
func looser(row []int, pick func(n int) int) []int {
	out := slices.Clone(row)
	for i := range out {
		if pick(3) == 0 {
			out[i] = 2
		}
	}
	return out
}

// looserThan tells whether a row has the values of another one, but more 2s.
func looserThan(a, b []int) bool {
	return slices.EqualFunc(a, b, func(x, y int) bool { return x == y || x == 2 })
}

// 8.5: a row with more 2s has no other values, but more 2s.
func TestMoreTwos(t *testing.T) {
	r := rand.New(rand.NewSource(93))
	for range 10000 {
		c := samples.Circuit(r.Intn)
		latches, inputs := someRow(len(c.Latches), r.Intn), someRow(len(c.Inputs), r.Intn)
		more, also := looser(latches, r.Intn), looser(inputs, r.Intn)
		if !looserThan(valuesBy(t, c, more, also), valuesBy(t, c, latches, inputs)) || !looserThan(stepBy(t, c, more, also), stepBy(t, c, latches, inputs)) {
			t.Fatalf("%+v by %v, %v and by %v, %v", c, latches, inputs, more, also)
		}
	}
}

// 8.5: each state of a run is covered by Settle's row; a row that a step of it, with 2 for all inputs, does not lead out of.
func TestRunsAreCovered(t *testing.T) {
	r := rand.New(rand.NewSource(94))
	for range 5000 {
		c := samples.Circuit(r.Intn)
		settled := settledBy(t, c)
		if next := stepBy(t, c, settled, twos(len(c.Inputs))); !looserThan(settled, next) {
			t.Fatalf("%+v settles with %v, then comes %v", c, settled, next)
		}
		tr := samples.Trace(c, 12, r.Intn)
		for i, l := range c.Latches {
			if l.Reset != l.Lit {
				tr.Init[i] = l.Reset == 1
			}
		}
		moments, e := sim.Run(c, tr)
		if e != api.OK {
			t.Fatalf("%+v by %+v: %v", c, tr, e)
		}
		for _, m := range moments {
			if !covers(settled, m.State) {
				t.Fatalf("%+v settles with %v; by %+v it comes to %v", c, settled, tr, m.State)
			}
		}
	}
}

// 8.5: of a lifted row and the inputs all literals are 1 in each state that it covers, and no value of a latch could be made 2 besides; the row covers what the one that was handed in covers.
func TestLiftedRows(t *testing.T) {
	r := rand.New(rand.NewSource(95))
	for range 3000 {
		c := samples.Circuit(r.Intn)
		latches, inputs := someRow(len(c.Latches), r.Intn), someRow(len(c.Inputs), r.Intn)
		lits := trueOf(c, latches, inputs, r.Intn)
		lifted := liftBy(t, c, latches, inputs, lits)
		if !looserThan(lifted, latches) {
			t.Fatalf("%+v: %v lifted to %v", c, latches, lifted)
		}
		for _, state := range covered(lifted) {
			for _, row := range covered(inputs) {
				v, _ := sim.Values(c, state, row)
				for _, l := range lits {
					if v[l/2] != (l%2 == 0) {
						t.Fatalf("%+v by %v, %v for %v: %v; not so in %v by %v", c, latches, inputs, lits, lifted, state, row)
					}
				}
			}
		}
		if again := liftBy(t, c, lifted, inputs, lits); !slices.Equal(again, lifted) {
			t.Fatalf("%+v by %v, %v for %v: %v, again %v", c, latches, inputs, lits, lifted, again)
		}
		for i, v := range lifted {
			one := slices.Clone(lifted)
			one[i] = 2
			if v != 2 && allTrueBy(valuesBy(t, c, one, inputs), lits) {
				t.Fatalf("%+v by %v, %v for %v: %v, but also %v", c, latches, inputs, lits, lifted, one)
			}
		}
	}
}

// allTrueBy tells whether literals are 1 by values of variables.
func allTrueBy(values, lits []int) bool {
	for _, l := range lits {
		if v, e := tern.Lit(values, l); v != 1 || e != api.OK {
			return false
		}
	}
	return true
}

// 8.1, 8.3, 8.4: the order of the gates, and which one of a gate's literals is Left, change nothing; nor does renumbering: values go with the map.
func TestOrderOfGates(t *testing.T) {
	r := rand.New(rand.NewSource(96))
	for range 2000 {
		c := samples.Circuit(r.Intn)
		latches, inputs := someRow(len(c.Latches), r.Intn), someRow(len(c.Inputs), r.Intn)
		lits := trueOf(c, latches, inputs, r.Intn)
		want, lifted := valuesOf(c, latches, inputs), liftOf(c, latches, inputs, lits)
		settled, times := settleOf(c)
		other := samples.Clone(c)
		r.Shuffle(len(other.Ands), func(i, k int) { other.Ands[i], other.Ands[k] = other.Ands[k], other.Ands[i] })
		for i, g := range other.Ands {
			other.Ands[i].Left, other.Ands[i].Right = g.Right, g.Left
		}
		values(t, other, latches, inputs, want)
		settles(t, other, settled, times)
		lifts(t, other, latches, inputs, lits, lifted)
		renumbered, literals, e := shape.Renumber(c)
		if e != api.OK {
			t.Fatalf("%+v: %v", c, e)
		}
		moved := make([]int, renumbered.Max+1)
		for old, l := range literals {
			if l > 0 {
				moved[l/2] = want[old]
			}
		}
		values(t, renumbered, latches, inputs, moved)
		settles(t, renumbered, settled, times)
		for i, l := range lits {
			lits[i] = literals[l/2] ^ l%2
		}
		lifts(t, renumbered, latches, inputs, lits, lifted)
	}
}
