package frames_test

import (
	"slices"
	"testing"

	"trestle/api"
	"trestle/samples"
	"trestle/shape"
)

// guarded is copies of what is handed in with something in the spare room of each list.
func (g given) guarded(by bool) given {
	g.model, g.tr = samples.GuardedList(g.model, by), samples.GuardedTrace(g.tr, by)
	return g
}

// whole is copies of what was handed in with all that stands in the spare room of its lists.
func (g given) whole() given {
	g.model, g.tr = slices.Clone(g.model[:cap(g.model)]), samples.WholeTrace(g.tr)
	return g
}

// same tells whether lists of what was handed in have the same members.
func (g given) same(h given) bool {
	return slices.Equal(g.model, h.model) && samples.SameTrace(g.tr, h.tr)
}

// spoil writes over all that belongs to what was handed in.
func (g given) spoil() {
	samples.Flip(g.model)
	samples.FlipTrace(g.tr)
}

// spoil writes over all that belongs to an answer's lists.
func (a answer) spoil() {
	samples.SpoilFormula(a.f)
	samples.Flip(a.model)
	samples.FlipTrace(a.tr)
}

// asked is circuits, right and wrong ones, and what is handed in beside them, right or not; of each right one there is a run.
func asked() ([]api.Circuit, []given) {
	circuits := []api.Circuit{stepping(), turning(), samples.Right(), {Max: 3, Inputs: []int{2, 4}}, {Max: 3}, {}}
	var all []given
	for _, c := range circuits {
		for i, by := range []func(int) int{func(int) int { return 0 }, func(n int) int { return n - 1 }, func(n int) int { return n / 2 }} {
			steps := i + 1
			tr := samples.Run(c, steps, by)
			if len(tr.Inputs) < steps {
				tr = samples.Trace(c, steps, by)
			}
			all = append(all, given{lit: 2 * c.Max, step: i, steps: steps, model: samples.Truths(1+steps*c.Max, by), tr: tr})
		}
	}
	for _, f := range samples.Faults() {
		circuits = append(circuits, f.Circuit())
	}
	return circuits, append(all, givens()...)
}

// R4, R7: what is handed in is not changed, spare room too, nor read behind its length; an answer shares no memory with it, nor with another answer, and is the same the next time.
func TestMemory(t *testing.T) {
	circuits, all := asked()
	told := map[string]int{}
	for _, x := range circuits {
		for _, y := range all {
			for _, ask := range calls() {
				want := answerOf(ask.name, x, y)
				if want.e == api.OK {
					told[ask.name]++
				}
				for _, by := range []bool{false, true} {
					c, g := samples.Guarded(x), y.guarded(by)
					was, wasGiven := samples.Whole(c), g.whole()
					first, second := ask.of(c, g), ask.of(c, g)
					second.spoil()
					if !shape.Same(samples.Whole(c), was) || !g.whole().same(wasGiven) {
						t.Fatalf("%s of %s: changed what was handed in", ask.name, brief(x, y))
					}
					third := ask.of(c, g)
					samples.Spoil(c)
					g.spoil()
					if !first.same(want) || !third.same(want) {
						t.Fatalf("%s of %s: %s, then %s, want %s", ask.name, brief(x, y), brief(first), brief(third), brief(want))
					}
				}
			}
		}
	}
	for _, ask := range calls() {
		if told[ask.name] < 12 {
			t.Errorf("%s answered but %d times", ask.name, told[ask.name])
		}
	}
}

// R4: no two clauses of one answer share memory, spare room too, also where gates, constraints and latches are alike, and those of two steps.
func TestClausesOfOneAnswer(t *testing.T) {
	like := api.Circuit{
		Max: 6, Inputs: []int{2}, Latches: []api.Latch{{Lit: 10, Next: 2}, {Lit: 12, Next: 2}}, Constraints: []int{2, 2, 1, 1},
		Ands: []api.And{{Out: 4, Left: 2, Right: 2}, {Out: 6, Left: 2, Right: 2}, {Out: 8, Left: 1, Right: 0}},
	}
	told := 0
	for _, c := range append(bare(), like, full(), sized(100, 50, 60)) {
		for _, ask := range some("Step", "Next", "First", "Run") {
			g := given{step: 1, steps: 4}
			f := ask.of(c, g).f
			told += len(f.Clauses)
			if !samples.Apart(f) {
				t.Fatalf("%s of %s: clauses share memory: %s", ask.name, brief(c), brief(f))
			}
			asWords(t, []call{ask}, c, g)
		}
	}
	if told < 100000 {
		t.Errorf("%d clauses", told)
	}
}

// R4: no two rows of one trace share memory, spare room too, nor do they with the first values.
func TestListsOfOneTrace(t *testing.T) {
	for _, c := range append(bare(), api.Circuit{Max: 5, Inputs: []int{2, 10, 4}, Latches: []api.Latch{{Lit: 8, Next: 8}}}) {
		g := given{steps: 5, model: make([]bool, 1+5*c.Max)}
		for i := range 6 {
			tr := some("Trace")[0].of(c, g).tr
			lists := append([][]bool{tr.Init}, tr.Inputs...)
			kept := samples.WholeTrace(tr)
			samples.Flip(lists[i])
			for k, other := range append([][]bool{kept.Init}, kept.Inputs[:5]...) {
				if k != i && !slices.Equal(lists[k][:cap(lists[k])], other) {
					t.Errorf("the lists %d and %d of %s share memory", i, k, brief(c))
				}
			}
		}
	}
}

// R4: lists that share memory with one another are read as any.
func TestSharedLists(t *testing.T) {
	numbers := []int{0, 1, 2, 4, 6}
	c := api.Circuit{Max: 4, Inputs: numbers[2:3], Latches: []api.Latch{{Lit: 4, Next: 6}}, Bads: numbers, Justice: [][]int{numbers, numbers[1:]}, Constraints: numbers[1:3], Ands: []api.And{{Out: 6, Left: 4, Right: 3}}}
	truths := samples.Bits("0110000101")
	row := truths[1:2]
	tr := api.Trace{Init: truths[:1], Inputs: [][]bool{row, row}, Loop: -1}
	g := given{lit: 6, step: 1, steps: 2, model: truths[:9], tr: tr}
	asWords(t, calls(), c, g)
	if _, is := modelOf(c, tr); !is {
		t.Errorf("%+v is no run", tr)
	}
	if !slices.Equal(numbers, []int{0, 1, 2, 4, 6}) || !slices.Equal(truths, samples.Bits("0110000101")) {
		t.Errorf("changed what was handed in: %v, %v", numbers, truths)
	}
}

// R3: lists that are nil and lists that are empty are the same.
func TestEmptyLists(t *testing.T) {
	empty := api.Circuit{
		Max: 1, Inputs: []int{}, Latches: []api.Latch{}, Outputs: []int{}, Bads: []int{}, Constraints: []int{}, Justice: [][]int{}, Fairness: []int{}, Ands: []api.And{}, Symbols: []api.Symbol{}, Comments: []string{},
	}
	for _, ask := range calls() {
		g := given{lit: 1, step: 1, steps: 2, model: samples.Bits("011"), tr: api.Trace{Inputs: [][]bool{nil, nil}}}
		want := ask.of(api.Circuit{Max: 1}, g)
		g.tr = api.Trace{Init: []bool{}, Inputs: [][]bool{{}, {}}}
		if got := ask.of(empty, g); !got.same(want) || want.e != api.OK {
			t.Errorf("%s: %+v, want %+v", ask.name, got, want)
		}
		g.model, g.tr = []bool{}, api.Trace{Init: []bool{}, Inputs: [][]bool{}}
		if got, want := ask.of(empty, g), ask.of(api.Circuit{Max: 1}, given{lit: 1, step: 1, steps: 2}); !got.same(want) {
			t.Errorf("%s: %+v, want %+v", ask.name, got, want)
		}
	}
}
