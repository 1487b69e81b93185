package tern_test

import (
	"math/rand"
	"slices"
	"testing"

	"trestle/api"
	"trestle/samples"
)

// 8.4: the example of the chapter: of a gate of two latches, both are needed where it is true, the second alone where it is not.
func TestLiftByExample(t *testing.T) {
	lifts(t, holder(), row("00"), nil, []int{6}, row("00"))
	lifts(t, holder(), row("11"), nil, []int{7}, row("21"))
	lifts(t, holder(), row("10"), nil, []int{7}, row("12"))
	lifts(t, holder(), row("01"), nil, []int{7}, row("21"))
}

// 8.4, R3: no literals, the literal 1, literals that hang on no latch: no latch matters.
func TestLiftOfNothing(t *testing.T) {
	for _, lits := range [][]int{nil, {}, {1}, {1, 1, 1}} {
		lifts(t, api.Circuit{}, nil, nil, lits, nil)
		lifts(t, api.Circuit{Max: 2, Inputs: []int{4}}, nil, row("2"), lits, nil)
		for _, latches := range allRows(2) {
			lifts(t, holder(), latches, nil, lits, row("22"))
		}
		lifts(t, samples.Right(), row("010"), row("10"), lits, row("222"))
	}
	// An input, a gate of inputs, one that is 0 by a constant, each beside latches.
	c := api.Circuit{Max: 6, Inputs: []int{2, 4}, Latches: []api.Latch{{Lit: 6, Next: 1}, {Lit: 8, Next: 6}}, Ands: []api.And{{Out: 10, Left: 2, Right: 5}, {Out: 12, Left: 0, Right: 8}}}
	for _, latches := range allRows(2) {
		lifts(t, c, latches, row("10"), []int{2}, row("22"))
		lifts(t, c, latches, row("10"), []int{10, 5, 13, 1}, row("22"))
		lifts(t, c, latches, row("20"), []int{13, 5}, row("22"))
	}
}

// 8.4: literals of latches themselves, negated or not, one, several, one of them several times, beside such as hang on none.
func TestLiftOfLatches(t *testing.T) {
	c := api.Circuit{Max: 4, Inputs: []int{2}, Latches: []api.Latch{{Lit: 8, Next: 1}, {Lit: 4, Next: 2}, {Lit: 6, Next: 4}}}
	for _, x := range []struct {
		lits []int
		want string
	}{
		{[]int{8}, "122"}, {[]int{5}, "202"}, {[]int{6}, "221"}, {[]int{6, 8}, "121"}, {[]int{5, 6}, "201"}, {[]int{8, 8, 8}, "122"}, {[]int{1, 5, 5, 1, 2}, "202"}, {[]int{6, 5, 8}, "101"},
	} {
		lifts(t, c, row("101"), row("1"), x.lits, row(x.want))
	}
	// What is 2 already stays so.
	lifts(t, c, row("121"), row("2"), []int{8}, row("122"))
	lifts(t, c, row("221"), row("2"), []int{6}, row("221"))
	lifts(t, c, row("222"), row("2"), []int{1}, row("222"))
}

// disjunction is a gate of three latches that is false if one of them is true; its middle gate stands behind the one that uses it.
func disjunction() api.Circuit {
	return api.Circuit{
		Max: 5, Latches: []api.Latch{{Lit: 2, Next: 2}, {Lit: 4, Next: 4}, {Lit: 6, Next: 6}}, Bads: []int{10},
		Ands: []api.And{{Out: 10, Left: 8, Right: 7}, {Out: 8, Left: 3, Right: 5}},
	}
}

// 8.4: latches are tried from the first one on: one that could be made 2 is not, if another one was made 2 ahead of it.
func TestLiftInOrder(t *testing.T) {
	c := disjunction()
	for _, x := range []struct{ latches, want string }{
		{"111", "221"}, {"110", "212"}, {"101", "221"}, {"011", "221"}, {"100", "122"}, {"010", "212"}, {"001", "221"}, {"121", "221"}, {"211", "221"}, {"112", "212"}, {"122", "122"},
	} {
		lifts(t, c, row(x.latches), nil, []int{11}, row(x.want))
	}
	// In the order of the list, not of the variables.
	slices.Reverse(c.Latches)
	lifts(t, c, row("111"), nil, []int{11}, row("221"))
	lifts(t, c, row("110"), nil, []int{11}, row("212"))
	// A latch that one literal lets go, and another one does not.
	c = disjunction()
	lifts(t, c, row("111"), nil, []int{11, 2}, row("122"))
	lifts(t, c, row("111"), nil, []int{9, 11}, row("212"))
	lifts(t, c, row("111"), nil, []int{2, 11, 6}, row("121"))
	lifts(t, c, row("000"), nil, []int{8}, row("002"))
	lifts(t, c, row("000"), nil, []int{10}, row("000"))
}

// 8.4: a try that fails leaves all as it was, also what lies far behind the latch, for the tries behind it.
func TestLiftBehindFailures(t *testing.T) {
	// 8: both of the first two; 10: 8 and the third; 12: not 8, and the third.
	c := api.Circuit{
		Max: 6, Latches: []api.Latch{{Lit: 2, Next: 1}, {Lit: 4, Next: 1}, {Lit: 6, Next: 1}},
		Ands: []api.And{{Out: 12, Left: 9, Right: 6}, {Out: 8, Left: 2, Right: 4}, {Out: 10, Left: 8, Right: 6}},
	}
	lifts(t, c, row("111"), nil, []int{13}, row("112"))
	lifts(t, c, row("111"), nil, []int{10}, row("111"))
	lifts(t, c, row("110"), nil, []int{11}, row("220"))
	lifts(t, c, row("010"), nil, []int{9, 11}, row("022"))
	lifts(t, c, row("101"), nil, []int{12}, row("201"))
	lifts(t, c, row("001"), nil, []int{12, 11}, row("201"))
}

// 8.4: inputs that are 2 may be, where all literals are 1 whatever they are.
func TestLiftByEitherInputs(t *testing.T) {
	c := api.Circuit{
		Max: 5, Inputs: []int{2}, Latches: []api.Latch{{Lit: 4, Next: 2}, {Lit: 6, Next: 4}}, Ands: []api.And{{Out: 8, Left: 2, Right: 4}, {Out: 10, Left: 8, Right: 6}},
	}
	lifts(t, c, row("00"), row("0"), []int{11}, row("22"))
	lifts(t, c, row("00"), row("1"), []int{11}, row("20"))
	lifts(t, c, row("00"), row("2"), []int{11}, row("20"))
	lifts(t, c, row("01"), row("2"), []int{11}, row("02"))
	lifts(t, c, row("02"), row("2"), []int{9, 11}, row("02"))
	refuse(t, "11 of either", liftCall(c, row("11"), row("2"), []int{11}), api.ErrFalse)
}

// trueOf is the literals that have the value 1, some of them, in any order, some again.
func trueOf(c api.Circuit, latches, inputs []int, pick func(n int) int) []int {
	var all, out []int
	for l := range 2*c.Max + 2 {
		if valueOf(c, latches, inputs, l) == 1 {
			all = append(all, l)
		}
	}
	for range pick(4) {
		out = append(out, all[pick(len(all))])
	}
	return out
}

// 8.4: all circuits of two gates over an input and two latches, for each literal that is 1, by all rows.
func TestLiftOfTwoGates(t *testing.T) {
	for n := range 8 * 8 * 10 * 10 {
		c := api.Circuit{
			Max: 5, Inputs: []int{6}, Latches: []api.Latch{{Lit: 2, Next: 2}, {Lit: 4, Next: 2}},
			Ands: []api.And{{Out: 8, Left: n % 8, Right: n / 8 % 8}, {Out: 10, Left: n / 64 % 10, Right: n / 640}},
		}
		if n/64%10 > n/640 {
			continue // the same gate as with its literals the other way round
		}
		for _, latches := range allRows(2) {
			for _, inputs := range allRows(1) {
				for l := 8; l < 12; l++ {
					if valueOf(c, latches, inputs, l) == 1 {
						lifts(t, c, latches, inputs, []int{l}, liftOf(c, latches, inputs, []int{l}))
					}
				}
			}
		}
	}
}

// 8.4: circuits by chance, for some of the literals that are 1, are lifted as the chapter's words say.
func TestLiftByChance(t *testing.T) {
	r := rand.New(rand.NewSource(88))
	made, kept := 0, 0
	for range 20000 {
		c := samples.Circuit(r.Intn)
		latches, inputs := someRow(len(c.Latches), r.Intn), someRow(len(c.Inputs), r.Intn)
		lits := trueOf(c, latches, inputs, r.Intn)
		want := liftOf(c, latches, inputs, lits)
		lifts(t, c, latches, inputs, lits, want)
		for i, v := range want {
			if v != 2 {
				kept++
			} else if latches[i] != 2 {
				made++
			}
		}
	}
	if made < 2000 || kept < 2000 {
		t.Errorf("%d made 2, %d kept", made, kept)
	}
}

// 8.4: circuits of many latches and gates are lifted as the chapter's words say.
func TestLiftOfManyLatches(t *testing.T) {
	r := rand.New(rand.NewSource(89))
	for range 300 {
		c := many(12, 25, r.Intn)
		latches, inputs := someRow(len(c.Latches), r.Intn), someRow(len(c.Inputs), r.Intn)
		lits := trueOf(c, latches, inputs, r.Intn)
		lifts(t, c, latches, inputs, lits, liftOf(c, latches, inputs, lits))
	}
}

// 8.4: as many latches, gates and literals as there may be.
func TestLiftOfMost(t *testing.T) {
	// Each gate is the one ahead of it and a latch: the last one holds all latches, where it is true, and one of them where it is not.
	c := api.Circuit{Max: api.MaxVar, Latches: []api.Latch{{Lit: 2}}}
	for v := 2; v < api.MaxVar; v += 2 {
		c.Latches = append(c.Latches, api.Latch{Lit: 2 * v})
		c.Ands = append(c.Ands, api.And{Out: 2*v + 2, Left: 2*v - 2, Right: 2 * v})
	}
	n := len(c.Latches)
	last := c.Ands[n-2].Out
	ones, zeros := slices.Repeat([]int{1}, n), make([]int, n)
	lifts(t, c, ones, nil, []int{last}, ones)
	want := twos(n)
	want[n-1] = 0
	lifts(t, c, zeros, nil, []int{last + 1}, want)
	// As many literals as there may be: one of them holds a latch.
	lits := slices.Repeat([]int{1}, api.MaxItems)
	lifts(t, c, ones, nil, lits, twos(n))
	lits[api.MaxItems-1] = 2
	want[n-1], want[0] = 2, 1
	lifts(t, c, ones, nil, lits, want)
	// All latches are held, each by its own literal.
	c = shifter()
	ones, lits = nil, []int{1}
	for _, l := range c.Latches {
		ones, lits = append(ones, 1), append(lits, l.Lit)
	}
	lifts(t, c, ones, row("2"), lits, ones)
}
