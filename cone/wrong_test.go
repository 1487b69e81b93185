package cone_test

import (
	"math"
	"math/rand"
	"slices"
	"testing"

	"trestle/api"
	"trestle/samples"
	"trestle/shape"
)

// 10.1: literals that are none of the circuit's, alone, ahead of others and behind them; samples.Right has variables up to 12.
func TestWrongLiterals(t *testing.T) {
	c := samples.Right()
	wrong := []int{-1, -2, -26, 26, 27, 28, 1000, 2*api.MaxVar + 2, math.MaxInt, math.MaxInt - 1, math.MinInt, math.MinInt + 1}
	for _, l := range wrong {
		for _, lits := range [][]int{{l}, {l, 2}, {0, l}, {25, 3, l}, {l, l}, {l, -1}, append(slices.Repeat([]int{1}, api.MaxItems-1), l)} {
			refuse(t, lits, some("Support", "Inputs"), c, given{lits: lits}, api.ErrRange)
		}
	}
	for most := range 4 {
		c := api.Circuit{Max: most}
		hangs(t, c, []int{0, 2*most + 1}, from(1, most)[max(0, most-1):], nil)
		refuse(t, most, some("Support", "Inputs"), c, given{lits: []int{2*most + 2}}, api.ErrRange)
	}
	refuse(t, "above the greatest", some("Support", "Inputs"), api.Circuit{Max: api.MaxVar}, given{lits: []int{2*api.MaxVar + 2}}, api.ErrRange)
}

// 10.1: too many literals, also where one is out of range.
func TestTooManyLiterals(t *testing.T) {
	for _, c := range []api.Circuit{{}, samples.Right(), {Max: api.MaxVar}} {
		for _, l := range []int{0, 1, -1, 2 * c.Max, 2*c.Max + 2, math.MaxInt, math.MinInt} {
			for _, n := range []int{1, 2, api.MaxItems} {
				lits := make([]int, api.MaxItems+n)
				refuse(t, n, some("Support", "Inputs"), c, given{lits: lits}, api.ErrLong)
				lits[0] = l
				refuse(t, l, some("Support", "Inputs"), c, given{lits: lits}, api.ErrLong)
				lits[0], lits[len(lits)-1] = 0, l
				refuse(t, l, some("Support", "Inputs"), c, given{lits: lits}, api.ErrLong)
			}
		}
	}
}

// noProps is what is no property of the circuits here: of each kind that is none any number, of others numbers that there are not.
func noProps(c api.Circuit) []api.Prop {
	var all []api.Prop
	for kind := range 256 {
		for _, at := range []int{0, 1, -1, len(c.Bads), len(c.Justice), len(c.Justice) + 1, api.MaxItems, math.MaxInt, math.MinInt} {
			p := api.Prop{Kind: byte(kind), At: at}
			if !slices.Contains(propsOf(c), p) {
				all = append(all, p)
			}
		}
	}
	return all
}

// 10.2: kinds and numbers of which there is no property, for Alike of p, of q, of both.
func TestNoProps(t *testing.T) {
	onlyBad, onlyJustice := api.Circuit{Bads: []int{0}}, api.Circuit{Justice: [][]int{nil}}
	for _, c := range []api.Circuit{samples.Right(), {}, onlyBad, onlyJustice, example()} {
		for _, p := range noProps(c) {
			refuse(t, p, some("Of", "Alike"), c, given{p: p, q: p}, api.ErrNone)
			for _, q := range propsOf(c) {
				refuse(t, p, some("Alike"), c, given{p: p, q: q}, api.ErrNone)
				refuse(t, p, some("Alike"), c, given{p: q, q: p}, api.ErrNone)
			}
		}
	}
	alike(t, onlyBad, bad(0), bad(0), 0, 0)
	alike(t, onlyJustice, justice(0), justice(0), 0, 0)
}

// notRising is lists that are no rising numbers of n things.
func notRising(n int) [][]int {
	return [][]int{
		{-1}, {n}, {n + 1}, {math.MaxInt}, {math.MinInt}, {0, 0}, {n - 1, n - 1}, {1, 0}, {0, 1, 1}, {0, 2, 1}, {-1, 0, 1}, {0, n}, append(from(0, n-1), n), append(from(0, n-1), n-1), append(from(0, n-1), 0),
		append([]int{0}, from(0, n-1)...), from(0, api.MaxItems), make([]int, api.MaxItems+1),
	}
}

// traceFor is a trace that has as many values as a cut's lists are long.
func traceFor(x api.Cut, rows int) api.Trace {
	tr := api.Trace{Init: make([]bool, len(x.Latches)), Loop: -1}
	for range rows {
		tr.Inputs = append(tr.Inputs, make([]bool, len(x.Inputs)))
	}
	return tr
}

// 10.3: numbers of inputs, of latches that do not rise, or that the circuit has not, by traces that would go with them; samples.Right has two inputs and three latches.
func TestNumbersOfCuts(t *testing.T) {
	c := samples.Right()
	for rows := range 3 {
		for _, wrong := range notRising(2) {
			for _, right := range [][]int{nil, {0}, {2}, {0, 1, 2}} {
				x := cutAt(wrong, right)
				refuse(t, wrong, some("Trace"), c, given{x: x, tr: traceFor(x, rows)}, api.ErrShape)
			}
		}
		for _, wrong := range notRising(3) {
			for _, right := range [][]int{nil, {0}, {1}, {0, 1}, {1, 0}, {-1}} {
				x := cutAt(right, wrong)
				refuse(t, wrong, some("Trace"), c, given{x: x, tr: traceFor(x, rows)}, api.ErrShape)
			}
		}
	}
	// Numbers of the one that are none of the other one.
	refuse(t, "2 of inputs", some("Trace"), c, given{x: cutAt([]int{2}, []int{2}), tr: samples.Told(-1, "0", "0")}, api.ErrShape)
	refuse(t, "0 of none", some("Trace"), api.Circuit{}, given{x: cutAt([]int{0}, nil), tr: samples.Told(-1, "", "0")}, api.ErrShape)
	refuse(t, "0 of none", some("Trace"), api.Circuit{}, given{x: cutAt(nil, []int{0}), tr: samples.Told(-1, "0", "")}, api.ErrShape)
}

// 10.3: first values, and rows, that are too many or too few, rows that are too many, and several of these.
func TestTracesThatDoNotFit(t *testing.T) {
	c := samples.Right()
	x := cutAt([]int{1}, []int{0, 2})
	for _, n := range []int{0, 1, 3, 4, api.MaxItems, api.MaxItems + 1} {
		for _, rows := range [][][]bool{nil, {{true}}, {{false}, {true}}, {{}}, {{true, false}}} {
			refuse(t, n, some("Trace"), c, given{x: x, tr: api.Trace{Init: make([]bool, n), Inputs: rows, Loop: -1}}, api.ErrShape)
		}
	}
	for _, n := range []int{0, 2, 3, 5, api.MaxItems, api.MaxItems + 1} {
		for rows := range 4 {
			for at := range rows {
				tr := traceFor(x, rows)
				tr.Inputs[at] = make([]bool, n)
				refuse(t, n, some("Trace"), c, given{x: x, tr: tr}, api.ErrShape)
			}
		}
	}
	for _, n := range []int{api.MaxFrames + 1, api.MaxFrames + 2, 2 * api.MaxFrames, api.MaxItems, api.MaxItems + 1} {
		for _, loop := range []int{-1, 0, n - 1} {
			tr := traceFor(x, n)
			tr.Loop = loop
			refuse(t, n, some("Trace"), c, given{x: x, tr: tr}, api.ErrShape)
			refuse(t, n, some("Trace"), api.Circuit{}, given{tr: api.Trace{Inputs: make([][]bool, n), Loop: loop}}, api.ErrShape)
		}
	}
	// What goes with the circuit goes not with the cut.
	refuse(t, "the circuit's", some("Trace"), c, given{x: x, tr: samples.Told(-1, "000", "00")}, api.ErrShape)
	refuse(t, "the other's", some("Trace"), c, given{x: x, tr: samples.Told(-1, "0", "00")}, api.ErrShape)
}

// wrongLits is what may not stand in place of the literals [0 2 -1 4 -1 -1], of a circuit of five variables.
func wrongLits() [][]int {
	all := [][]int{nil, {}, {0}, {0, 2, -1, 4, -1}, {0, 2, -1, 4, -1, -1, -1}, {0, 2, -1, 4, -1, -1, 0}, slices.Repeat([]int{-1}, 5), slices.Repeat([]int{-1}, 7), slices.Repeat([]int{-1}, api.MaxVar+2), slices.Repeat([]int{-1}, 3*api.MaxVar)}
	for at := range 6 {
		for _, l := range []int{1, 3, 5, 7, -2, -3, -4, 2*api.MaxVar + 1, 2*api.MaxVar + 2, 2*api.MaxVar + 4, math.MaxInt, math.MaxInt - 1, math.MinInt, math.MinInt + 1} {
			lits := []int{0, 2, -1, 4, -1, -1}
			lits[at] = l
			all = append(all, lits)
		}
		for other := range at {
			for _, twice := range []int{2, 6, 2 * api.MaxVar} {
				lits := []int{0, -1, 0, -1, 0, -1}
				lits[at], lits[other] = twice, twice
				all = append(all, lits)
			}
		}
	}
	return all
}

// 10.3: a cut's literals that are too many, too few, odd, below -1, above the greatest or there twice, whatever the lemma is.
func TestLitsOfCuts(t *testing.T) {
	c := example()
	long := make([]int, api.MaxItems+1)
	for _, lits := range wrongLits() {
		for _, l := range [][]int{nil, {4}, {5, 2}, {6}, {0}, {-1}, long} {
			refuse(t, lits, some("Lemma"), c, given{x: api.Cut{Lits: lits}, l: l}, api.ErrShape)
		}
	}
	refuse(t, "none of 0", some("Lemma"), api.Circuit{}, given{}, api.ErrShape)
	refuse(t, "two of 0", some("Lemma"), api.Circuit{}, given{x: api.Cut{Lits: []int{0, -1}}}, api.ErrShape)
	refuse(t, "too few", some("Lemma"), api.Circuit{Max: api.MaxVar}, given{x: api.Cut{Lits: make([]int, api.MaxVar)}}, api.ErrShape)
}

// 10.3: literals that the cut has not, 0 and 1, alone, ahead of others and behind them, and of a circuit of which it has nothing.
func TestLiteralsTheCutHasNot(t *testing.T) {
	c := example()
	none := []int{0, 1, -1, -2, -4, -5, 6, 7, 8, 10, 11, 12, 2 * api.MaxVar, 2*api.MaxVar + 1, 2*api.MaxVar + 2, math.MaxInt, math.MaxInt - 1, math.MinInt, math.MinInt + 1}
	for _, lits := range [][]int{{0, 2, -1, 4, -1, -1}, {0, 4, 0, 2, 0, 0}, {-1, 4, 0, 2, 0, -1}} {
		for _, k := range none {
			for _, l := range [][]int{{k}, {k, 4}, {5, k}, {2, 3, k, 4}, {k, k}, append(slices.Repeat([]int{2}, api.MaxItems-1), k)} {
				refuse(t, l, some("Lemma"), c, given{x: api.Cut{Lits: lits}, l: l}, api.ErrNone)
			}
		}
	}
	for _, k := range append(none, 2, 3, 4, 5) {
		refuse(t, k, some("Lemma"), api.Circuit{}, given{x: api.Cut{Lits: []int{0}}, l: []int{k}}, api.ErrNone)
		refuse(t, k, some("Lemma"), c, given{x: api.Cut{Lits: make([]int, 6)}, l: []int{k}}, api.ErrNone)
		refuse(t, k, some("Lemma"), c, given{x: api.Cut{Lits: slices.Repeat([]int{-1}, 6)}, l: []int{k}}, api.ErrNone)
	}
}

// 10.3: lemmas that are too long, of literals that the cut has, and that it has not.
func TestLemmasTooLong(t *testing.T) {
	c := example()
	for _, k := range []int{4, 5, 6, 0, -1, math.MaxInt, math.MinInt} {
		for _, n := range []int{1, 2, api.MaxItems} {
			refuse(t, k, some("Lemma"), c, given{x: cutBy(t, c, bad(0)), l: slices.Repeat([]int{k}, api.MaxItems+n)}, api.ErrLong)
		}
	}
	refuse(t, "of nothing", some("Lemma"), api.Circuit{}, given{x: api.Cut{Lits: []int{0}}, l: make([]int, api.MaxItems+1)}, api.ErrLong)
}

// wrongAnyway is what is handed in beside a circuit that is wrong: what would go with samples.Right, and what is wrong too.
func wrongAnyway(t *testing.T) []given {
	x := cutBy(t, samples.Right(), justice(2))
	return []given{
		{lits: []int{24}, p: justice(2), q: bad(1), x: x, tr: samples.Told(-1, "010", "01"), l: []int{7}}, {},
		{lits: []int{-1, 26}, p: api.Prop{Kind: 'x'}, q: bad(-1), x: cutAt([]int{1, 0}, []int{7}), tr: samples.Told(-1, "0", ""), l: []int{0}},
		{lits: make([]int, api.MaxItems+1), p: bad(2), q: justice(3), x: cutAt(from(0, api.MaxItems), nil), tr: traceFor(x, api.MaxFrames+1), l: make([]int, api.MaxItems+1)},
	}
}

// R1, R2: what is wrong with a circuit is told ahead of all else; of two things that are wrong with it, the one that layer 3's chapter names first.
func TestWrongCircuits(t *testing.T) {
	all := samples.Faults()
	for i, f := range all {
		for _, g := range wrongAnyway(t) {
			refuse(t, f.Name, calls(), f.Circuit(), g, f.Want)
		}
		for _, also := range all[i+1:] {
			c := f.Circuit()
			also.Do(&c)
			refuse(t, f.Name+", "+also.Name, calls(), c, wrongAnyway(t)[i%4], f.Want)
		}
	}
	for _, c := range []api.Circuit{{Max: -1}, {Max: math.MinInt}, {Max: api.MaxVar + 1}, {Max: math.MaxInt}} {
		for _, g := range wrongAnyway(t) {
			refuse(t, c, calls(), c, g, api.ErrRange)
		}
	}
}

// anyGiven is what may be handed in beside a circuit, right or not, some of it wrong.
func anyGiven(c api.Circuit, r *rand.Rand) given {
	about := func(n int) int { return r.Intn(n+2) - 1 }
	// The greatest variable of a wrong circuit may be no size.
	most := max(0, min(c.Max, 40))
	g := given{p: api.Prop{Kind: "bbjjx"[r.Intn(5)], At: about(2)}, q: api.Prop{Kind: "bj"[r.Intn(2)], At: about(2)}}
	for range r.Intn(4) {
		g.lits = append(g.lits, about(2*most+2))
	}
	g.x = anyCut(api.Circuit{Max: most, Inputs: c.Inputs, Latches: c.Latches}, r)
	g.tr = traceOn(g.x, r.Intn(3), r)
	for _, l := range literalsOf(g.x) {
		if r.Intn(4) == 0 {
			g.l = append(g.l, l)
		}
	}
	switch r.Intn(12) {
	case 0:
		g.x.Inputs = append(g.x.Inputs, about(3))
	case 1:
		g.x.Latches = append(g.x.Latches, about(3))
	case 2:
		g.tr.Init = append(g.tr.Init, true)
	case 3:
		g.tr.Inputs = append(g.tr.Inputs, make([]bool, r.Intn(4)))
	case 4, 5:
		g.x.Lits[r.Intn(len(g.x.Lits))] = about(2 * most)
	case 6:
		g.l = append(g.l, about(2*most+2))
	}
	return g
}

// P1, R1, R2: circuits by chance with any numbers in them, and anything beside them: all calls end, and tell what the chapter's words say.
func TestAnyNumbers(t *testing.T) {
	r := rand.New(rand.NewSource(109))
	seen := map[api.Errno]int{}
	for range 20000 {
		c := samples.AnyNumbers(r.Intn)
		_, e := shape.Check(c)
		seen[e]++
		asWords(t, calls(), c, anyGiven(c, r))
	}
	for _, e := range samples.CodesOfNumbers() {
		if seen[e] < 10 {
			t.Errorf("%v came but %d times", e, seen[e])
		}
	}
}

// P1, R1: right circuits, and anything beside them: each error of each call comes, where the chapter's words say so.
func TestAnythingBeside(t *testing.T) {
	r := rand.New(rand.NewSource(110))
	type outcome struct {
		name string
		e    api.Errno
	}
	seen := map[outcome]int{}
	for range 20000 {
		c := samples.Circuit(r.Intn)
		g := anyGiven(c, r)
		asWords(t, calls(), c, g)
		for _, x := range calls() {
			seen[outcome{x.name, wrongOf(x.name, c, g)}]++
		}
	}
	for _, want := range []outcome{
		{"Support", api.OK}, {"Support", api.ErrRange}, {"Inputs", api.OK}, {"Inputs", api.ErrRange}, {"Of", api.OK}, {"Of", api.ErrNone}, {"Alike", api.OK}, {"Alike", api.ErrNone},
		{"Trace", api.OK}, {"Trace", api.ErrShape}, {"Lemma", api.OK}, {"Lemma", api.ErrShape}, {"Lemma", api.ErrNone},
	} {
		if seen[want] < 500 {
			t.Errorf("%+v came but %d times", want, seen[want])
		}
	}
}
