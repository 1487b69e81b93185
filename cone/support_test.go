package cone_test

import (
	"math/rand"
	"slices"
	"testing"

	"trestle/api"
	"trestle/samples"
)

// 10.1: the chapter's example, each of its literals, and some together.
func TestSupportByExample(t *testing.T) {
	c := example()
	hangs(t, c, []int{2}, []int{1}, []int{0})
	hangs(t, c, []int{4}, []int{2}, []int{1})
	hangs(t, c, []int{6}, []int{1, 3}, nil)
	hangs(t, c, []int{8}, []int{2, 4, 5}, nil)
	hangs(t, c, []int{10}, []int{2, 4, 5}, []int{1})
	hangs(t, c, []int{10, 6}, []int{1, 2, 3, 4, 5}, []int{1})
	hangs(t, c, []int{6, 2, 11}, []int{1, 2, 3, 4, 5}, []int{0, 1})
}

// 10.1, R3: no literals, 0 and 1: they hang on nothing, whatever the circuit has.
func TestSupportOfNothing(t *testing.T) {
	for _, c := range []api.Circuit{{}, {Max: 1}, {Max: 3, Inputs: []int{4}}, {Max: api.MaxVar}, example(), samples.Right()} {
		for _, lits := range [][]int{nil, {}, {0}, {1}, {1, 0, 0, 1}} {
			hangs(t, c, lits, nil, nil)
		}
	}
	// A gate and a latch of constants alone hang on themselves.
	c := api.Circuit{Max: 2, Latches: []api.Latch{{Lit: 2, Next: 1, Reset: 1}}, Ands: []api.And{{Out: 4, Left: 1, Right: 0}}}
	hangs(t, c, []int{2}, []int{1}, nil)
	hangs(t, c, []int{4}, []int{2}, nil)
}

// 10.1: literals that come twice, negated or not, in any order, are as they are once.
func TestLiteralsTwice(t *testing.T) {
	c := example()
	for _, lits := range [][]int{{10, 10}, {10, 11}, {11, 0, 10, 10}, {8, 10, 9, 4, 11}} {
		hangs(t, c, lits, []int{2, 4, 5}, inputsOf(c, lits))
	}
	for _, lits := range samples.AllLists(3, 2, 7, 8, 10, 11) {
		asWords(t, some("Support", "Inputs"), c, given{lits: lits})
	}
}

// 10.1: variables that nothing defines are hung on by their own literals alone; gates stand ahead of what they use. (The variables 5, 6 and 8 are not defined.)
func TestSupportOfAllLists(t *testing.T) {
	c := samples.Right()
	for _, v := range []int{5, 6, 8} {
		hangs(t, c, []int{2 * v}, []int{v}, nil)
	}
	hangs(t, c, []int{10, 12, 16, 8}, []int{4, 5, 6, 8}, []int{0})
	hangs(t, c, []int{2}, []int{1}, []int{1})
	hangs(t, c, []int{4}, []int{2, 4, 7}, nil)
	hangs(t, c, []int{14}, []int{4, 7}, nil)
	hangs(t, c, []int{18}, []int{1, 3, 9, 10, 11}, []int{1})
	hangs(t, c, []int{6}, []int{1, 3, 9, 10, 11}, nil)
	hangs(t, c, []int{24}, []int{1, 3, 9, 10, 11, 12}, []int{1})
	hangs(t, c, []int{24, 8}, []int{1, 3, 4, 9, 10, 11, 12}, []int{0, 1})
	hangs(t, api.Circuit{Max: api.MaxVar}, []int{2 * api.MaxVar, 2}, []int{1, api.MaxVar}, nil)
}

// 10.1: inputs are told by their numbers in the list, rising, whatever their variables are.
func TestNumbersOfInputs(t *testing.T) {
	c := api.Circuit{Max: 7, Inputs: []int{10, 4, 14, 2}, Ands: []api.And{{Out: 6, Left: 15, Right: 2}, {Out: 8, Left: 5, Right: 6}}}
	hangs(t, c, []int{6}, []int{1, 3, 7}, []int{2, 3})
	hangs(t, c, []int{8}, []int{1, 2, 3, 4, 7}, []int{1, 2, 3})
	hangs(t, c, []int{2, 4, 10, 14}, []int{1, 2, 5, 7}, []int{0, 1, 2, 3})
	hangs(t, c, []int{10, 14}, []int{5, 7}, []int{0, 2})
}

// 10.1: a latch's Next is looked through for Support, also over many latches, and not for Inputs, also not where a gate uses the latch.
func TestLatchesAreLookedThrough(t *testing.T) {
	c := api.Circuit{
		Max: 7, Inputs: []int{2, 4}, Latches: []api.Latch{{Lit: 6, Next: 3}, {Lit: 8, Next: 7, Reset: 1}, {Lit: 10, Next: 8, Reset: 10}, {Lit: 12, Next: 1}},
		Ands: []api.And{{Out: 14, Left: 10, Right: 5}},
	}
	hangs(t, c, []int{6}, []int{1, 3}, nil)
	hangs(t, c, []int{8}, []int{1, 3, 4}, nil)
	hangs(t, c, []int{10}, []int{1, 3, 4, 5}, nil)
	hangs(t, c, []int{12}, []int{6}, nil)
	hangs(t, c, []int{14}, []int{1, 2, 3, 4, 5, 7}, []int{1})
}

// 10.1: latches that hang on each other in a ring, over gates too, on themselves, and what only leads into a ring.
func TestRings(t *testing.T) {
	c := api.Circuit{
		Max: 9, Inputs: []int{2}, Latches: []api.Latch{{Lit: 4, Next: 7}, {Lit: 6, Next: 8}, {Lit: 8, Next: 5}, {Lit: 10, Next: 4}, {Lit: 12, Next: 12}, {Lit: 14, Next: 17}},
		Ands: []api.And{{Out: 16, Left: 15, Right: 2}, {Out: 18, Left: 16, Right: 10}},
	}
	for _, l := range []int{4, 6, 8} {
		hangs(t, c, []int{l}, []int{2, 3, 4}, nil)
	}
	hangs(t, c, []int{10}, []int{2, 3, 4, 5}, nil)
	hangs(t, c, []int{12}, []int{6}, nil)
	hangs(t, c, []int{14}, []int{1, 7, 8}, nil)
	hangs(t, c, []int{16}, []int{1, 7, 8}, []int{0})
	hangs(t, c, []int{18}, []int{1, 2, 3, 4, 5, 7, 8, 9}, []int{0})
}

// 10.1: all circuits of two gates over an input and a latch, in both orders, of each literal and of all that are there.
func TestSupportOfTwoGates(t *testing.T) {
	for _, c := range samples.TwoGates() {
		for range 2 {
			for l := range 10 {
				asWords(t, some("Support", "Inputs"), c, given{lits: []int{l}})
			}
			asWords(t, some("Support", "Inputs"), c, given{lits: samples.AllLiterals(c)})
			slices.Reverse(c.Ands)
		}
	}
}

// 10.1: circuits by chance, each literal, and some together.
func TestSupportByChance(t *testing.T) {
	r := rand.New(rand.NewSource(101))
	for range 2000 {
		c := samples.Circuit(r.Intn)
		for l := range 2*c.Max + 2 {
			asWords(t, some("Support", "Inputs"), c, given{lits: []int{l}})
		}
		for range 5 {
			asWords(t, some("Support", "Inputs"), c, given{lits: samples.SomeLiterals(c, r.Intn)})
		}
	}
}

// 10.1: what stands in lists that are not named there changes nothing: outputs, bads, constraints, justice, fairness, symbols, comments, resets; nor which one of a gate's literals is Left, nor the order of the gates.
func TestWhatIsNotNamed(t *testing.T) {
	r := rand.New(rand.NewSource(102))
	for range 1000 {
		c := samples.Circuit(r.Intn)
		bare := samples.Clone(api.Circuit{Max: c.Max, Inputs: c.Inputs, Latches: c.Latches, Ands: c.Ands})
		for i, l := range bare.Latches {
			bare.Latches[i].Reset = [...]int{0, 1, l.Lit}[r.Intn(3)]
		}
		for i, g := range bare.Ands {
			bare.Ands[i].Left, bare.Ands[i].Right = g.Right^1, g.Left
		}
		slices.Reverse(bare.Ands)
		g := given{lits: samples.SomeLiterals(c, r.Intn)}
		for _, x := range some("Support", "Inputs") {
			if was, is := x.of(c, g), x.of(bare, g); !was.same(is) {
				t.Fatalf("%s of %v of %+v: %+v, of %+v: %+v", x.name, g.lits, c, was, bare, is)
			}
		}
	}
}

// chain is a circuit of an input and gates up to the greatest variable, each of which uses the one behind it in the list.
func chain() api.Circuit {
	c := api.Circuit{Max: api.MaxVar, Inputs: []int{2}}
	for v := api.MaxVar; v > 1; v-- {
		c.Ands = append(c.Ands, api.And{Out: 2 * v, Left: 2*v - 1, Right: 2*v - 2})
	}
	return c
}

// ring is a circuit of latches up to the greatest variable, each of which takes what the one behind it was, the last one what the first one was.
func ring() api.Circuit {
	c := api.Circuit{Max: api.MaxVar}
	for v := 1; v <= api.MaxVar; v++ {
		c.Latches = append(c.Latches, api.Latch{Lit: 2 * v, Next: 2 * (v%api.MaxVar + 1)})
	}
	return c
}

// from is the numbers from one on up to another one.
func from(first, last int) []int {
	var all []int
	for n := first; n <= last; n++ {
		all = append(all, n)
	}
	return all
}

// 10.1: as many gates, latches, inputs as there may be, each hung on by one literal, or each one told, as many literals as there may be.
func TestSupportOfMost(t *testing.T) {
	hangs(t, chain(), []int{2 * api.MaxVar}, from(1, api.MaxVar), []int{0})
	hangs(t, chain(), []int{4002, 20}, from(1, 2001), []int{0})
	hangs(t, ring(), []int{2*api.MaxVar + 1}, from(1, api.MaxVar), nil)
	c := api.Circuit{Max: api.MaxVar}
	var lits []int
	for v := api.MaxVar; v > 0; v-- {
		c.Inputs, lits = append(c.Inputs, 2*v), append(lits, 2*v)
	}
	hangs(t, c, lits, from(1, api.MaxVar), from(0, api.MaxVar-1))
	hangs(t, c, slices.Repeat([]int{2*api.MaxVar + 1}, api.MaxItems), []int{api.MaxVar}, []int{0})
	hangs(t, ring(), lits, from(1, api.MaxVar), nil)
}
