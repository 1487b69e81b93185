package encode_test

import (
	"math/rand"
	"slices"
	"testing"

	"trestle/api"
	"trestle/encode"
	"trestle/samples"
)

// 15.1: the chapter's example: on an input no gate hangs; and the gate itself.
func TestConeByExample(t *testing.T) {
	saysOf(t, example(), []int{2}, formula(4))
	saysOf(t, example(), []int{6}, formula(4, gate{4, 2, 3}))
}

// 15.1, R3: of no literals, and of constants alone, there is the clause of what is false alone, whatever the circuit has.
func TestConeOfNothing(t *testing.T) {
	for _, c := range []api.Circuit{{}, {Max: 1}, {Max: 3, Inputs: []int{4}}, {Max: api.MaxVar}, example(), stepping(), samples.Right(), chain()} {
		for _, lits := range [][]int{nil, {}, {0}, {1}, {1, 0, 0, 1}, make([]int, api.MaxItems)} {
			saysOf(t, c, lits, formula(c.Max+1))
		}
	}
}

// 15.1: on inputs, and on variables that nothing defines, no gate hangs. (The variables 5, 6 and 8 of samples.Right are not defined.)
func TestConeWithoutGates(t *testing.T) {
	saysOf(t, samples.Right(), []int{2, 8, 10, 12, 17, 0}, formula(13))
	saysOf(t, api.Circuit{Max: 4, Inputs: []int{6}}, []int{2, 4, 6, 8}, formula(5))
	saysOf(t, api.Circuit{Max: api.MaxVar}, []int{2 * api.MaxVar, 2}, formula(api.MaxVar+1))
}

// 15.1: on a latch no gate hangs within one step, though its next literal is a gate's; a gate hangs on what it uses and no further than to latches; latches and gates together are as the gates alone. The clauses stand in the order of Ands.
func TestConeWithinOneStep(t *testing.T) {
	c := stepping()
	g16, g14, g12, g10 := gate{9, -7, 6}, gate{8, 4, 5}, gate{7, -6, 2}, gate{6, 2, -3}
	saysOf(t, c, []int{6}, formula(9))
	saysOf(t, c, []int{6, 8}, formula(9))
	saysOf(t, c, []int{10}, formula(9, g10))
	saysOf(t, c, []int{12}, formula(9, g12, g10))
	saysOf(t, c, []int{14}, formula(9, g14))
	saysOf(t, c, []int{16}, formula(9, g16, g12, g10))
	saysOf(t, c, []int{6, 14}, formula(9, g14))
	saysOf(t, c, []int{8, 10, 6, 4}, formula(9, g10))
	saysOf(t, c, []int{10, 14}, formula(9, g14, g10))
	saysOf(t, c, []int{12, 14}, formula(9, g14, g12, g10))
	saysOf(t, c, []int{10, 12}, formula(9, g12, g10))
	saysOf(t, c, []int{14, 16}, formula(9, g16, g14, g12, g10))
	slices.Reverse(c.Ands)
	saysOf(t, c, []int{16}, formula(9, g10, g12, g16))
	saysOf(t, c, []int{14, 16}, formula(9, g10, g12, g14, g16))
	// A latch whose next literal is its own gate's, and a ring of latches over gates.
	ring := api.Circuit{
		Max: 6, Latches: []api.Latch{{Lit: 2, Next: 11}, {Lit: 4, Next: 12}, {Lit: 6, Next: 6}}, Ands: []api.And{{Out: 10, Left: 4, Right: 6}, {Out: 12, Left: 2, Right: 7}},
	}
	saysOf(t, ring, []int{2, 4, 6}, formula(7))
	saysOf(t, ring, []int{10}, formula(7, gate{6, 3, 4}))
	saysOf(t, ring, []int{12, 4}, formula(7, gate{7, 2, -4}))
}

// 15.1: the gates of samples.Right stand ahead of those that they use: 20 uses 22 and 18, 22 twice 18, 24 a constant and 20.
func TestConeOfAllLists(t *testing.T) {
	c := samples.Right()
	g20, g18, g22, g24 := gate{11, 12, -10}, gate{10, -2, 4}, gate{12, 10, 10}, gate{13, 1, 11}
	saysOf(t, c, []int{18}, formula(13, g18))
	saysOf(t, c, []int{22}, formula(13, g18, g22))
	saysOf(t, c, []int{20}, formula(13, g20, g18, g22))
	saysOf(t, c, []int{24}, formula(13, g20, g18, g22, g24))
	saysOf(t, c, []int{6, 14, 4}, formula(13))
	saysOf(t, c, []int{14, 22, 8}, formula(13, g18, g22))
}

// 15.1: a gate whose literals are the same, contrary or constant hangs on no other gate than any; its clauses stand as they are.
func TestConeOfTrivialGates(t *testing.T) {
	c := api.Circuit{Max: 6, Inputs: []int{2}, Ands: []api.And{{Out: 12, Left: 10, Right: 8}, {Out: 4, Left: 0, Right: 1}, {Out: 6, Left: 4, Right: 4}, {Out: 8, Left: 6, Right: 7}, {Out: 10, Left: 2, Right: 0}}}
	saysOf(t, c, []int{4}, formula(7, gate{3, 1, -1}))
	saysOf(t, c, []int{6}, formula(7, gate{3, 1, -1}, gate{4, 3, 3}))
	saysOf(t, c, []int{8}, formula(7, gate{3, 1, -1}, gate{4, 3, 3}, gate{5, 4, -4}))
	saysOf(t, c, []int{10}, formula(7, gate{6, 2, 1}))
	saysOf(t, c, []int{12}, formula(7, gate{7, 6, 5}, gate{3, 1, -1}, gate{4, 3, 3}, gate{5, 4, -4}, gate{6, 2, 1}))
}

// 15.1: a literal that stands twice, its contrary beside it, and literals on whose gates others hang already: each gate's clauses stand once.
func TestLiteralsTwice(t *testing.T) {
	want := formula(9, gate{7, -6, 2}, gate{6, 2, -3})
	for _, lits := range [][]int{{12, 12}, {12, 13}, {13, 0, 12, 12}, {10, 12, 11, 6, 13}, {12, 10}, slices.Repeat([]int{12, 11}, api.MaxItems/2)} {
		saysOf(t, stepping(), lits, want)
	}
	for _, lits := range samples.AllLists(3, 0, 6, 10, 12, 13, 15, 16) {
		asWords(t, some("Cone"), stepping(), given{lits: lits})
	}
}

// 15.1: all circuits of two gates over an input and a latch, in both orders, of each literal, of each two gates' and of all that are there.
func TestConeOfTwoGates(t *testing.T) {
	for _, c := range samples.TwoGates() {
		for range 2 {
			for _, l := range samples.AllLiterals(c) {
				asWords(t, some("Cone"), c, given{lits: []int{l}})
				asWords(t, some("Cone"), c, given{lits: []int{4, l}})
				asWords(t, some("Cone"), c, given{lits: []int{9, l}})
			}
			asWords(t, some("Cone"), c, given{lits: samples.AllLiterals(c)})
			slices.Reverse(c.Ands)
		}
	}
}

// 15.1: circuits by chance, each literal, and some together; some cones have all gates, some none, most some of them.
func TestConeByChance(t *testing.T) {
	r := rand.New(rand.NewSource(165))
	whole, part, none := 0, 0, 0
	for range 1500 {
		c := samples.Circuit(r.Intn)
		for _, l := range samples.AllLiterals(c) {
			asWords(t, some("Cone"), c, given{lits: []int{l}})
		}
		for range 5 {
			g := given{lits: samples.SomeLiterals(c, r.Intn)}
			asWords(t, some("Cone"), c, g)
			switch f, _ := encode.Cone(c, g.lits); len(f.Clauses) {
			case 1:
				none++
			case 1 + 3*len(c.Ands):
				whole++
			default:
				part++
			}
		}
	}
	if min(whole, part, none) < 200 {
		t.Errorf("%d with all gates, %d with some, %d with none", whole, part, none)
	}
}

// 15.1: as many gates, and as many literals, as there may be.
func TestMostOfCones(t *testing.T) {
	c := chain()
	for range 2 {
		for _, v := range []int{2, 3, 2001, api.MaxVar - 1, api.MaxVar} {
			gates := links(v, 2)
			if c.Ands[0].Out == 4 {
				slices.Reverse(gates)
			}
			saysOf(t, c, []int{2 * v}, formula(api.MaxVar+1, gates...))
			saysOf(t, c, slices.Repeat([]int{2*v + 1}, api.MaxItems), formula(api.MaxVar+1, gates...))
		}
		saysOf(t, c, []int{2}, formula(api.MaxVar+1))
		slices.Reverse(c.Ands)
	}
	// A literal of each variable, and gates that use nothing.
	free := api.Circuit{Max: api.MaxVar}
	var lits []int
	var gates, odd []gate
	for v := 1; v <= api.MaxVar; v++ {
		free.Ands, lits, gates = append(free.Ands, api.And{Out: 2 * v, Left: 1, Right: 0}), append(lits, 2*v+v%3/2), append(gates, gate{v + 1, -1, 1})
		if v%2 == 1 {
			odd = append(odd, gate{v + 1, -1, 1})
		}
	}
	saysOf(t, free, lits, formula(api.MaxVar+1, gates...))
	saysOf(t, free, []int{2*api.MaxVar - 1, 2}, formula(api.MaxVar+1, gates[0], gates[api.MaxVar-2]))
	few := slices.DeleteFunc(lits, func(l int) bool { return l/2%2 == 0 })
	saysOf(t, free, few, formula(api.MaxVar+1, odd...))
}
