package cone_test

import (
	"slices"
	"testing"

	"trestle/api"
	"trestle/cone"
	"trestle/samples"
	"trestle/shape"
)

// guarded is copies of what is handed in with something in the spare room of each list.
func (g given) guarded(number int, truth bool) given {
	x := g.x
	return given{
		lits: samples.GuardedList(g.lits, number), p: g.p, q: g.q,
		x: api.Cut{
			C: samples.Guarded(x.C), Lits: samples.GuardedList(x.Lits, number), Inputs: samples.GuardedList(x.Inputs, number), Latches: samples.GuardedList(x.Latches, number),
		},
		tr: samples.GuardedTrace(g.tr, truth), l: samples.GuardedList(g.l, number),
	}
}

// lists is the lists of numbers, but those of the cut's circuit, each with its spare room.
func (g given) lists() [][]int {
	all := [][]int{g.lits, g.x.Lits, g.x.Inputs, g.x.Latches, g.l}
	for i, l := range all {
		all[i] = l[:cap(l)]
	}
	return all
}

// whole is copies of what was handed in with all that stands in the spare room of its lists.
func (g given) whole() given {
	all := g.lists()
	for i, l := range all {
		all[i] = slices.Clone(l)
	}
	return given{lits: all[0], x: api.Cut{C: samples.Whole(g.x.C), Lits: all[1], Inputs: all[2], Latches: all[3]}, tr: samples.WholeTrace(g.tr), l: all[4]}
}

// same tells whether lists of what was handed in have the same members.
func (g given) same(h given) bool {
	return slices.Equal(g.lits, h.lits) && sameCut(g.x, h.x) && samples.SameTrace(g.tr, h.tr) && slices.Equal(g.l, h.l)
}

// spoil writes over all that belongs to what was handed in.
func (g given) spoil() {
	for _, l := range g.lists() {
		samples.Fill(l, 99)
	}
	samples.Spoil(g.x.C)
	samples.FlipTrace(g.tr)
}

// cloned is the same answer of new lists.
func (a answer) cloned() answer {
	a.truths, a.numbers = slices.Clone(a.truths), slices.Clone(a.numbers)
	a.x = api.Cut{C: shape.Copy(a.x.C), Lits: slices.Clone(a.x.Lits), Inputs: slices.Clone(a.x.Inputs), Latches: slices.Clone(a.x.Latches)}
	a.tr = samples.GuardedTrace(a.tr, false)
	return a
}

// spoil writes over all that belongs to an answer's lists.
func (a answer) spoil() {
	samples.Flip(a.truths)
	for _, l := range [...][]int{a.numbers, a.x.Lits, a.x.Inputs, a.x.Latches} {
		samples.Fill(l, 99)
	}
	samples.Spoil(a.x.C)
	samples.FlipTrace(a.tr)
}

// asked is circuits, right and wrong ones, and what is handed in beside them, right or not.
func asked(t *testing.T) ([]api.Circuit, []given) {
	c := samples.Right()
	circuits := []api.Circuit{c, example(), {Max: 3, Inputs: []int{2, 4}}, {}}
	for _, f := range samples.Faults() {
		circuits = append(circuits, f.Circuit())
	}
	all := wrongAnyway(t)
	for _, p := range propsOf(c) {
		x := cutBy(t, c, p)
		all = append(all, given{lits: []int{24, 5, 24}, p: p, q: bad(0), x: x, tr: traceFor(x, 3), l: []int{4, 3, 4}}, given{lits: []int{6}, p: bad(0), q: p, x: x, tr: traceFor(x, 0)})
	}
	x := cutBy(t, example(), bad(0))
	all = append(all, given{lits: []int{10, 0}, p: bad(1), q: bad(0), x: x, tr: samples.Told(0, "1", "0", "1"), l: []int{5, 2}})
	return circuits, append(all, given{x: cutAt([]int{1}, nil), tr: samples.Told(-1, "", "1", "0")}, given{lits: []int{4, 2, 7}, x: api.Cut{Lits: []int{0, 2, 4, -1}}, l: []int{5, 2}})
}

// R4, R7: what is handed in is not changed, spare room too, nor read behind its length; an answer shares no memory with it, nor with another answer, and is the same the next time.
func TestMemory(t *testing.T) {
	circuits, all := asked(t)
	told := map[string]int{}
	for _, x := range circuits {
		for _, y := range all {
			for _, ask := range calls() {
				want := ask.of(x, y).cloned()
				for i, by := range []int{-7, 1, 0} {
					c, g := samples.Guarded(x), y.guarded(by, i%2 == 0)
					was, wasGiven := samples.Whole(c), g.whole()
					first, second := ask.of(c, g), ask.of(c, g)
					second.spoil()
					if !shape.Same(samples.Whole(c), was) || !g.whole().same(wasGiven) {
						t.Fatalf("%s of %s: changed what was handed in", ask.name, brief(x, y))
					}
					third := ask.of(c, g)
					samples.Spoil(c)
					g.spoil()
					if !first.same(want) || !third.same(want) {
						t.Fatalf("%s of %s: %s, then %s, want %s", ask.name, brief(x, y), brief(first), brief(third), brief(want))
					}
				}
				if want.e == api.OK {
					told[ask.name]++
				}
			}
		}
	}
	for _, ask := range calls() {
		if told[ask.name] < 10 {
			t.Errorf("%s answered but %d times", ask.name, told[ask.name])
		}
	}
}

// R4: no two lists of one cut share memory, spare room too, also where those that were handed in do.
func TestListsOfOneCut(t *testing.T) {
	one := []int{2, 4, 4, 2}
	c := api.Circuit{
		Max: 3, Inputs: one[:2], Latches: []api.Latch{{Lit: 6, Next: 2}}, Outputs: one, Bads: one, Constraints: one[1:3], Justice: [][]int{one, one[:1], one}, Fairness: one,
	}
	for _, p := range []api.Prop{bad(2), justice(0), justice(2)} {
		x := cutBy(t, c, p)
		lists := append(samples.Lists(x.C), x.Lits[:cap(x.Lits)], x.Inputs[:cap(x.Inputs)], x.Latches[:cap(x.Latches)])
		for i, l := range lists {
			samples.Fill(l, 100+i)
		}
		for i, l := range lists {
			if slices.ContainsFunc(l, func(n int) bool { return n != 100+i }) {
				t.Errorf("%+v: the list %d is shared: %v", p, i, l)
			}
		}
	}
	if !slices.Equal(one, []int{2, 4, 4, 2}) {
		t.Errorf("changed what was handed in: %v", one)
	}
}

// R4: no two rows of one trace share memory, spare room too, nor do they with the first values, also where those that were handed in do.
func TestListsOfOneTrace(t *testing.T) {
	c := example()
	one := samples.Bits("1")
	for _, x := range []api.Cut{cutBy(t, c, bad(0)), cutBy(t, c, bad(1))} {
		tr := traceBy(t, c, x, api.Trace{Init: one, Inputs: [][]bool{one, one, one}, Loop: -1})
		lists := append([][]bool{tr.Init}, tr.Inputs...)
		for i, l := range lists {
			kept := samples.GuardedTrace(tr, false)
			samples.Flip(l)
			for k, other := range append([][]bool{kept.Init}, kept.Inputs...) {
				if k != i && !slices.Equal(lists[k], other) {
					t.Errorf("the lists %d and %d share memory", i, k)
				}
			}
		}
	}
	if !slices.Equal(one, samples.Bits("1")) {
		t.Errorf("changed what was handed in: %v", one)
	}
}

// R4: lists that share memory with one another are read as any.
func TestSharedLists(t *testing.T) {
	one := []int{0, 1, 2, 4}
	c := api.Circuit{Max: 3, Inputs: one[2:], Latches: []api.Latch{{Lit: 6, Next: 4}}, Bads: one[1:], Justice: [][]int{one, one[2:]}, Constraints: one[:2]}
	x := api.Cut{Lits: one, Inputs: one[:2], Latches: one[:1]}
	asWords(t, calls(), c, given{lits: one, p: bad(1), q: justice(0), x: api.Cut{Lits: []int{0, -1, 2, 4}, Inputs: x.Inputs, Latches: x.Latches}, tr: samples.Told(0, "1", "01"), l: one[2:]})
	truths := samples.Bits("10")
	goesBack(t, c, x, api.Trace{Init: truths[:1], Inputs: [][]bool{truths, truths}, Loop: 1}, samples.Told(1, "1", "10", "10"))
	if !slices.Equal(one, []int{0, 1, 2, 4}) || !slices.Equal(truths, samples.Bits("10")) {
		t.Errorf("changed what was handed in: %v, %v", one, truths)
	}
}

// R3: lists that are nil and lists that are empty are the same.
func TestEmptyLists(t *testing.T) {
	empty := api.Circuit{
		Max: 1, Inputs: []int{}, Latches: []api.Latch{}, Outputs: []int{}, Bads: []int{0}, Constraints: []int{}, Justice: [][]int{{}}, Fairness: []int{}, Ands: []api.And{}, Symbols: []api.Symbol{}, Comments: []string{},
	}
	nothing := api.Circuit{Max: 1, Bads: []int{0}, Justice: [][]int{nil}}
	lits := []int{0, -1}
	for _, p := range propsOf(nothing) {
		for _, ask := range calls() {
			want := ask.of(nothing, given{p: p, q: bad(0), x: api.Cut{Lits: lits}, tr: api.Trace{Inputs: make([][]bool, 2)}})
			got := ask.of(empty, given{
				lits: []int{}, p: p, q: bad(0), x: api.Cut{C: empty, Lits: lits, Inputs: []int{}, Latches: []int{}}, tr: api.Trace{Init: []bool{}, Inputs: [][]bool{{}, nil}}, l: api.Lemma{},
			})
			if !got.same(want) || want.e != api.OK {
				t.Errorf("%s: %s, want %s", ask.name, brief(got), brief(want))
			}
		}
	}
	if tr, e := cone.Trace(empty, api.Cut{}, api.Trace{Init: []bool{}, Inputs: [][]bool{}}); len(tr.Init)+len(tr.Inputs) > 0 || e != api.OK {
		t.Errorf("%+v, %v", tr, e)
	}
}
