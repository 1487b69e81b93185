package cone_test

import (
	"math"
	"math/rand"
	"slices"
	"testing"

	"trestle/api"
	"trestle/samples"
)

// 10.3: the chapter's examples.
func TestBackByExample(t *testing.T) {
	c := example()
	x := cutBy(t, c, bad(0))
	goesBack(t, c, x, samples.Told(-1, "0", "1"), samples.Told(-1, "00", "10"))
	goesBack(t, c, x, samples.Told(-1, "1", "0", "1", "0"), samples.Told(-1, "10", "00", "10", "00"))
	comesOf(t, c, x, []int{5}, []int{7})
	x = cutBy(t, c, bad(1))
	goesBack(t, c, x, samples.Told(0, "1", "1", "0"), samples.Told(0, "01", "01", "00"))
	comesOf(t, c, x, []int{4, 5}, []int{8, 9})
}

// cutAt is a cut that says but which inputs and latches it has.
func cutAt(inputs, latches []int) api.Cut { return api.Cut{Inputs: inputs, Latches: latches} }

// 10.3: a latch that the cut has not begins with true if its Reset is 1, with false if that is 0 or its own literal; one that it has begins as the trace says, whatever its Reset is; an input that it has not is false.
func TestWhatTheCutHasNot(t *testing.T) {
	c := api.Circuit{Max: 8, Inputs: []int{16, 4}}
	for _, l := range []int{14, 2, 8, 6, 12, 10} {
		c.Latches = append(c.Latches, api.Latch{Lit: l, Next: 16, Reset: [...]int{0, 1, l}[len(c.Latches)%3]})
	}
	goesBack(t, c, cutAt(nil, nil), samples.Told(-1, "", "", ""), samples.Told(-1, "010010", "00", "00"))
	goesBack(t, c, cutAt([]int{1}, []int{0, 1, 2}), samples.Told(-1, "111", "1"), samples.Told(-1, "111010", "01"))
	goesBack(t, c, cutAt([]int{1}, []int{0, 1, 2}), samples.Told(-1, "000", "0", "1"), samples.Told(-1, "000010", "00", "01"))
	goesBack(t, c, cutAt([]int{0}, []int{1, 3, 4, 5}), samples.Told(-1, "0101", "1", "0"), samples.Told(-1, "000101", "10", "00"))
	goesBack(t, c, cutAt([]int{0, 1}, []int{5}), samples.Told(-1, "1", "10", "01", "11", "00"), samples.Told(-1, "010011", "10", "01", "11", "00"))
	for _, first := range samples.AllLists(6, false, true) {
		goesBack(t, c, cutAt(nil, from(0, 5)), api.Trace{Init: first, Inputs: make([][]bool, 3)}, api.Trace{Init: first, Inputs: [][]bool{samples.Bits("00"), samples.Bits("00"), samples.Bits("00")}})
	}
}

// 10.3: traces of no rows, of one, of as many as there may be, each with a loop and without; the loop is as it was, also where there is no such step.
func TestRowsAndLoops(t *testing.T) {
	c := example()
	x := cutBy(t, c, bad(0))
	for _, n := range []int{0, 1, 2, api.MaxFrames - 1, api.MaxFrames} {
		for _, loop := range []int{-1, 0, 1, n - 1, n, n + 1, -2, math.MaxInt, math.MinInt} {
			tr, want := samples.Told(loop, "1"), samples.Told(loop, "10")
			for i := range n {
				tr.Inputs, want.Inputs = append(tr.Inputs, []bool{i%3 == 1}), append(want.Inputs, []bool{i%3 == 1, false})
			}
			goesBack(t, c, x, tr, want)
		}
	}
	goesBack(t, api.Circuit{}, api.Cut{}, api.Trace{}, api.Trace{})
	goesBack(t, api.Circuit{Max: 3}, api.Cut{}, samples.Told(2, "", "", ""), samples.Told(2, "", "", ""))
}

// 10.3: but a cut's Inputs and Latches are not looked at for a trace, but its Lits for a lemma.
func TestWhatIsNotLookedAt(t *testing.T) {
	c := example()
	for _, f := range samples.Faults() {
		x := cutBy(t, c, bad(0))
		x.C = f.Circuit()
		goesBack(t, c, x, samples.Told(-1, "1", "1"), samples.Told(-1, "10", "10"))
		comesOf(t, c, x, []int{5, 2}, []int{7, 2})
	}
	for _, lits := range [][]int{nil, {-7}, {0, 2, 2, 1, 3}, slices.Repeat([]int{99}, 3*api.MaxItems)} {
		x := cutAt([]int{0}, []int{0})
		x.Lits = lits
		goesBack(t, c, x, samples.Told(-1, "1", "1"), samples.Told(-1, "10", "10"))
		x = cutAt(lits, lits)
		x.Lits = []int{0, 2, -1, 4, -1, -1}
		comesOf(t, c, x, []int{5, 2}, []int{7, 2})
	}
}

// 10.3: as many inputs and latches as there may be, of which a cut has all, or some.
func TestBackOfMost(t *testing.T) {
	r := rand.New(rand.NewSource(106))
	c := ring()
	c.Latches, c.Inputs = c.Latches[:api.MaxVar/2], nil
	c.Latches[api.MaxVar/2-1].Next = 2
	for v := api.MaxVar; v > api.MaxVar/2; v-- {
		c.Inputs = append(c.Inputs, 2*v)
	}
	whole := api.Trace{Init: samples.Truths(len(c.Latches), r.Intn), Inputs: [][]bool{samples.Truths(len(c.Inputs), r.Intn), samples.Truths(len(c.Inputs), r.Intn)}, Loop: 1}
	goesBack(t, c, cutAt(from(0, len(c.Inputs)-1), from(0, len(c.Latches)-1)), whole, whole)
	last := api.MaxVar/2 - 1
	want := api.Trace{Init: make([]bool, len(c.Latches)), Inputs: [][]bool{make([]bool, len(c.Inputs))}, Loop: -1}
	want.Init[last], want.Inputs[0][last] = true, true
	goesBack(t, c, cutAt([]int{0, last}, []int{7, last}), samples.Told(-1, "01", "01"), want)
}

// anyCut is a cut that says some inputs and latches of a circuit, and of its variables literals, all of which may be.
func anyCut(c api.Circuit, r *rand.Rand) api.Cut {
	var x api.Cut
	for i := range c.Inputs {
		if r.Intn(2) == 0 {
			x.Inputs = append(x.Inputs, i)
		}
	}
	for i := range c.Latches {
		if r.Intn(2) == 0 {
			x.Latches = append(x.Latches, i)
		}
	}
	for _, k := range r.Perm(c.Max + 1) {
		x.Lits = append(x.Lits, [...]int{-1, 0, 2 * (k + 1), 2 * (api.MaxVar - k)}[r.Intn(4)])
	}
	return x
}

// traceOn is a trace that goes with a cut.
func traceOn(x api.Cut, rows int, r *rand.Rand) api.Trace {
	return samples.Trace(api.Circuit{Inputs: x.Inputs, Latches: make([]api.Latch, len(x.Latches))}, rows, r.Intn)
}

// 10.3: cuts and traces by chance.
func TestTracesByChance(t *testing.T) {
	r := rand.New(rand.NewSource(107))
	for range 5000 {
		c := samples.Circuit(r.Intn)
		x := anyCut(c, r)
		asWords(t, some("Trace"), c, given{x: x, tr: traceOn(x, r.Intn(5), r)})
		for _, p := range propsOf(c) {
			x := cutBy(t, c, p)
			asWords(t, some("Trace"), c, given{x: x, tr: traceOn(x, r.Intn(5), r)})
		}
	}
}

// 10.3: lemmas of nothing, of literals negated and not, in any order, twice, of a latch, an input and a gate; in a circuit whose variables stand in another order.
func TestLemmas(t *testing.T) {
	c := samples.Right()
	x := cutBy(t, c, justice(2))
	comesOf(t, c, x, nil, nil)
	comesOf(t, c, x, []int{}, nil)
	comesOf(t, c, x, []int{6, 8, 10}, []int{6, 14, 4})
	comesOf(t, c, x, []int{11, 7, 9, 7}, []int{5, 7, 15, 7})
	comesOf(t, c, x, []int{2, 5, 12, 19, 3}, []int{8, 3, 20, 25, 9})
	comesOf(t, api.Circuit{}, api.Cut{Lits: []int{0}}, nil, nil)
	comesOf(t, api.Circuit{}, api.Cut{Lits: []int{-1}}, nil, nil)
	comesOf(t, c, cutBy(t, api.Circuit{Max: 12, Bads: []int{0}}, bad(0)), nil, nil)
}

// 10.3: a cut's literals are what they say, also where no cut of the circuit has such: the greatest one there may be, 0 more than once, none of the variable 0.
func TestLiteralsOfCuts(t *testing.T) {
	c := example()
	x := api.Cut{Lits: []int{-1, 2 * api.MaxVar, 0, 0, 2, -1}}
	comesOf(t, c, x, []int{2 * api.MaxVar, 2*api.MaxVar + 1, 3, 2}, []int{2, 3, 9, 8})
	x.Lits = []int{2, 0, 6, 4, 8, 2*api.MaxVar - 2}
	comesOf(t, c, x, []int{2*api.MaxVar - 2, 2*api.MaxVar - 1, 9, 4, 7}, []int{10, 11, 9, 6, 5})
	comesOf(t, c, x, []int{2, 3}, []int{0, 1})
	for l := range 12 {
		comesOf(t, c, allOf(c), []int{max(l, 2)}, []int{max(l, 2)})
	}
	most := api.Circuit{Max: api.MaxVar}
	x.Lits = nil
	var l, want []int
	for v := range api.MaxVar + 1 {
		x.Lits = append(x.Lits, 2*(api.MaxVar-v))
		if v > 0 {
			l, want = append(l, 2*v+v%2), append(want, 2*(api.MaxVar-v)+v%2)
		}
	}
	comesOf(t, most, x, l, want)
	comesOf(t, most, x, slices.Repeat([]int{2*api.MaxVar + 1}, api.MaxItems), slices.Repeat([]int{1}, api.MaxItems))
}

// literalsOf is the literals of a cut that may stand in a lemma.
func literalsOf(x api.Cut) []int {
	var all []int
	for _, l := range x.Lits {
		if l > 0 {
			all = append(all, l, l+1)
		}
	}
	return all
}

// 10.3: cuts and lemmas by chance.
func TestLemmasByChance(t *testing.T) {
	r := rand.New(rand.NewSource(108))
	lemma := func(x api.Cut) api.Lemma {
		var l api.Lemma
		all := literalsOf(x)
		for range r.Intn(5) * min(1, len(all)) {
			l = append(l, all[r.Intn(len(all))])
		}
		return l
	}
	for range 5000 {
		c := samples.Circuit(r.Intn)
		x := anyCut(c, r)
		asWords(t, some("Lemma"), c, given{x: x, l: lemma(x)})
		for _, p := range propsOf(c) {
			x := cutBy(t, c, p)
			asWords(t, some("Lemma"), c, given{x: x, l: lemma(x)})
		}
	}
}
