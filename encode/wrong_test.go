package encode_test

import (
	"math"
	"math/rand"
	"slices"
	"testing"

	"trestle/api"
	"trestle/samples"
	"trestle/shape"
)

// 15.1: literals that are none of the circuit's, alone, ahead of others and behind them, and among as many as there may be.
func TestWrongLiterals(t *testing.T) {
	for _, c := range []api.Circuit{samples.Right(), stepping(), {Max: 2}} {
		for _, l := range outside(c.Max) {
			for _, lits := range [][]int{{l}, {l, 2}, {0, l}, {5, 3, l}, {l, l}, {l, -1}, append(slices.Repeat([]int{1}, api.MaxItems-1), l)} {
				refuse(t, lits, some("Cone"), c, given{lits: lits}, api.ErrRange)
			}
		}
	}
	for _, most := range []int{0, 1, 2, 3, api.MaxVar} {
		c := api.Circuit{Max: most}
		saysOf(t, c, []int{0, 2 * most, 2*most + 1}, formula(most+1))
		for _, l := range []int{-1, 2*most + 2, 2*most + 3} {
			refuse(t, most, some("Cone"), c, given{lits: []int{2*most + 1, l}}, api.ErrRange)
		}
	}
}

// 15.1, R1: too many literals, also where one is out of range; as many as there may be are taken.
func TestTooManyLiterals(t *testing.T) {
	for _, c := range []api.Circuit{{}, samples.Right(), {Max: api.MaxVar}} {
		for _, l := range append(outside(c.Max), 0, 1, 2*c.Max) {
			for _, n := range []int{1, 2, api.MaxItems} {
				lits := make([]int, api.MaxItems+n)
				refuse(t, n, some("Cone"), c, given{lits: lits}, api.ErrLong)
				lits[0] = l
				refuse(t, l, some("Cone"), c, given{lits: lits}, api.ErrLong)
				lits[0], lits[len(lits)-1] = 0, l
				refuse(t, l, some("Cone"), c, given{lits: lits}, api.ErrLong)
			}
		}
	}
	lits := slices.Repeat([]int{6, 7}, api.MaxItems/2)
	saysOf(t, example(), lits, formula(4, gate{4, 2, 3}))
	refuse(t, "one more", some("Cone"), example(), given{lits: append(lits, 6)}, api.ErrLong)
}

// wrongCounts is how many truths there may not be where there must be n.
func wrongCounts(n int) []int {
	return slices.DeleteFunc([]int{0, n - 1, n + 1, 2 * n, 64, api.MaxItems, api.MaxItems + 1, 2*api.MaxItems + 1}, func(k int) bool { return k == n || k < 0 })
}

// 15.2: states and rows that are empty, too short and too long, one of them or both; samples.Right has three latches and two inputs.
func TestStepsThatDoNotFit(t *testing.T) {
	c := samples.Right()
	for _, n := range wrongCounts(3) {
		refuse(t, n, some("Model"), c, given{state: make([]bool, n), row: samples.Bits("00")}, api.ErrShape)
		for _, k := range wrongCounts(2) {
			refuse(t, []int{n, k}, some("Model"), c, given{state: make([]bool, n), row: make([]bool, k)}, api.ErrShape)
		}
	}
	for _, k := range wrongCounts(2) {
		refuse(t, k, some("Model"), c, given{state: samples.Bits("000"), row: make([]bool, k)}, api.ErrShape)
	}
	// As many as both together, in each other's place.
	refuse(t, "changed over", some("Model"), c, given{state: samples.Bits("00"), row: samples.Bits("000")}, api.ErrShape)
	refuse(t, "nil", some("Model"), c, given{}, api.ErrShape)
	refuse(t, "one of none", some("Model"), api.Circuit{}, given{state: samples.Bits("0")}, api.ErrShape)
	refuse(t, "one of none", some("Model"), api.Circuit{Max: 4}, given{row: samples.Bits("1")}, api.ErrShape)
	refuse(t, "none of two", some("Model"), example(), given{row: samples.Bits("")}, api.ErrShape)
}

// 15.2: models of no truth, of Max, of Max + 2, and of as many as there are inputs, latches and gates, where some variables are not defined.
func TestModelsThatDoNotFit(t *testing.T) {
	for _, c := range []api.Circuit{samples.Right(), example(), stepping(), {}, {Max: 1}, {Max: 7}, {Max: api.MaxItems - 1}, {Max: api.MaxVar}} {
		for _, n := range append(wrongCounts(c.Max+1), c.Max, c.Max+2) {
			if n != c.Max+1 {
				refuse(t, n, some("Step"), c, given{model: make([]bool, n)}, api.ErrShape)
			}
		}
		refuse(t, "nil", some("Step"), c, given{}, api.ErrShape)
		isStep(t, c, make([]bool, c.Max+1), make([]bool, len(c.Latches)), make([]bool, len(c.Inputs)))
	}
	refuse(t, "defined ones alone", some("Step"), samples.Right(), given{model: make([]bool, 10)}, api.ErrShape)
}

// givens is what is handed in beside a circuit: what goes with samples.Right, nothing, and what goes with no circuit.
func givens() []given {
	return []given{
		{l: 25, lits: []int{24, 5}, state: samples.Bits("010"), row: samples.Bits("01"), model: make([]bool, 13)}, {},
		{l: -1, lits: []int{-1, 26}, state: samples.Bits("0"), row: samples.Bits("000"), model: samples.Bits("0000")},
		{l: math.MaxInt, lits: make([]int, api.MaxItems+1), state: make([]bool, api.MaxItems+1), row: make([]bool, api.MaxItems+1), model: make([]bool, 2*api.MaxItems)},
	}
}

// R1, R2: what is wrong with a circuit is told ahead of a literal, a list, a state, a row and a model that are wrong; of two things that are wrong with it, the one that layer 3's chapter names first.
func TestWrongCircuits(t *testing.T) {
	all := samples.Faults()
	for i, f := range all {
		for _, g := range givens() {
			refuse(t, f.Name, calls(), f.Circuit(), g, f.Want)
		}
		for _, also := range all[i+1:] {
			c := f.Circuit()
			also.Do(&c)
			refuse(t, f.Name+", "+also.Name, calls(), c, givens()[i%4], f.Want)
		}
	}
	for _, most := range []int{-1, -2, math.MinInt, api.MaxVar + 1, 2 * api.MaxVar, math.MaxInt} {
		for _, g := range givens() {
			refuse(t, most, calls(), api.Circuit{Max: most}, g, api.ErrRange)
		}
	}
}

// anyGiven is what may be handed in beside a circuit, right or not, some of it wrong.
func anyGiven(c api.Circuit, r *rand.Rand) given {
	// The greatest variable of a wrong circuit may be no size.
	most := max(0, min(c.Max, 40))
	count := func(n int) int { return max(0, n+[...]int{0, 0, 0, 0, 0, 0, -1, 1}[r.Intn(8)]) }
	g := given{
		l: r.Intn(2*most+6) - 2, lits: samples.SomeLiterals(api.Circuit{Max: most}, r.Intn),
		state: samples.Truths(count(len(c.Latches)), r.Intn), row: samples.Truths(count(len(c.Inputs)), r.Intn), model: samples.Truths(count(most+1), r.Intn),
	}
	if len(g.lits) > 0 && r.Intn(4) == 0 {
		g.lits[r.Intn(len(g.lits))] = []int{-1, 2*most + 2, math.MaxInt, math.MinInt}[r.Intn(4)]
	}
	return g
}

// P1, R1, R2: circuits by chance with any numbers in them, and anything beside them: all calls end, and tell what the chapter's words say.
func TestAnyNumbers(t *testing.T) {
	r := rand.New(rand.NewSource(169))
	seen := map[api.Errno]int{}
	for range 20000 {
		c := samples.AnyNumbers(r.Intn)
		_, e := shape.Check(c)
		seen[e]++
		asWords(t, calls(), c, anyGiven(c, r))
	}
	for _, e := range samples.CodesOfNumbers() {
		if seen[e] < 10 {
			t.Errorf("%v came but %d times", e, seen[e])
		}
	}
}

// P1, R1: right circuits, and anything beside them: each error of each call that comes of a few things comes, where the chapter's words say so.
func TestAnythingBeside(t *testing.T) {
	r := rand.New(rand.NewSource(170))
	type outcome struct {
		name string
		e    api.Errno
	}
	seen := map[outcome]int{}
	for range 20000 {
		c := samples.Circuit(r.Intn)
		g := anyGiven(c, r)
		asWords(t, calls(), c, g)
		for _, x := range calls() {
			seen[outcome{x.name, wrongOf(x.name, c, g)}]++
		}
	}
	for _, want := range []outcome{
		{"Lit", api.OK}, {"Lit", api.ErrRange}, {"Gates", api.OK}, {"Cone", api.OK}, {"Cone", api.ErrRange}, {"Model", api.OK}, {"Model", api.ErrShape}, {"Step", api.OK}, {"Step", api.ErrShape},
	} {
		if seen[want] < 500 {
			t.Errorf("%+v came but %d times", want, seen[want])
		}
	}
}
