package encode_test

import (
	"slices"
	"testing"

	"trestle/api"
	"trestle/samples"
	"trestle/shape"
)

// guarded is copies of what is handed in with something in the spare room of each list.
func (g given) guarded(number int, truth bool) given {
	return given{
		l: g.l, lits: samples.GuardedList(g.lits, number),
		state: samples.GuardedList(g.state, truth), row: samples.GuardedList(g.row, truth), model: samples.GuardedList(g.model, truth),
	}
}

// whole is copies of what was handed in with all that stands in the spare room of its lists.
func (g given) whole() given {
	return given{
		l: g.l, lits: slices.Clone(g.lits[:cap(g.lits)]),
		state: slices.Clone(g.state[:cap(g.state)]), row: slices.Clone(g.row[:cap(g.row)]), model: slices.Clone(g.model[:cap(g.model)]),
	}
}

// same tells whether lists of what was handed in have the same members.
func (g given) same(h given) bool {
	return slices.Equal(g.lits, h.lits) && slices.Equal(g.state, h.state) && slices.Equal(g.row, h.row) && slices.Equal(g.model, h.model)
}

// spoil writes over all that belongs to what was handed in.
func (g given) spoil() {
	samples.Fill(g.lits, 99)
	for _, l := range [...][]bool{g.state, g.row, g.model} {
		samples.Flip(l)
	}
}

// spoil writes over all that belongs to an answer's lists.
func (a answer) spoil() {
	samples.SpoilFormula(a.f)
	for _, l := range [...][]bool{a.state, a.row, a.model} {
		samples.Flip(l)
	}
}

// asked is circuits, right and wrong ones, and what is handed in beside them, right or not.
func asked() ([]api.Circuit, []given) {
	circuits := []api.Circuit{samples.Right(), stepping(), example(), {Max: 3, Inputs: []int{2, 4}}, {Max: 3}, {}}
	for _, f := range samples.Faults() {
		circuits = append(circuits, f.Circuit())
	}
	all := givens()
	for i, c := range circuits[:6] {
		truths := samples.Bits([]string{"1011011101011", "0010111011010"}[i%2])
		all = append(all, given{l: 2 * c.Max, lits: []int{2 * c.Max, 1, 2*c.Max + 1}, state: truths[:len(c.Latches)], row: truths[:len(c.Inputs)], model: truths[:c.Max+1]})
	}
	return circuits, all
}

// R4, R7: what is handed in is not changed, spare room too, nor read behind its length; an answer shares no memory with it, nor with another answer, and is the same the next time.
func TestMemory(t *testing.T) {
	circuits, all := asked()
	told := map[string]int{}
	for _, x := range circuits {
		for _, y := range all {
			for _, ask := range calls() {
				want := answerOf(ask.name, x, y)
				if want.e == api.OK {
					told[ask.name]++
				}
				for i, by := range []int{-7, 1, 0} {
					c, g := samples.Guarded(x), y.guarded(by, i%2 == 0)
					was, wasGiven := samples.Whole(c), g.whole()
					first, second := ask.of(c, g), ask.of(c, g)
					second.spoil()
					if !shape.Same(samples.Whole(c), was) || !g.whole().same(wasGiven) {
						t.Fatalf("%s of %s: changed what was handed in", ask.name, brief(x, y))
					}
					third := ask.of(c, g)
					samples.Spoil(c)
					g.spoil()
					if !first.same(want) || !third.same(want) {
						t.Fatalf("%s of %s: %s, then %s, want %s", ask.name, brief(x, y), brief(first), brief(third), brief(want))
					}
				}
			}
		}
	}
	for _, ask := range calls() {
		if told[ask.name] < 6 {
			t.Errorf("%s answered but %d times", ask.name, told[ask.name])
		}
	}
}

// R4: no two clauses of one answer share memory, spare room too, also where gates are alike, and the clauses of one gate.
func TestClausesOfOneAnswer(t *testing.T) {
	like := api.Circuit{Max: 4, Inputs: []int{2}, Ands: []api.And{{Out: 4, Left: 2, Right: 2}, {Out: 6, Left: 2, Right: 2}, {Out: 8, Left: 1, Right: 0}}}
	for _, c := range []api.Circuit{like, example(), stepping(), samples.Right(), chain(), {}} {
		for _, ask := range some("Gates", "Cone") {
			g := given{lits: samples.AllLiterals(c)[:min(2*c.Max+2, api.MaxItems)]}
			f := ask.of(c, g).f
			if len(f.Clauses) == 0 || !samples.Apart(f) {
				t.Fatalf("%s of %s: clauses share memory, or there are none: %s", ask.name, brief(c), brief(f))
			}
			asWords(t, []call{ask}, c, g)
		}
	}
}

// R4: a state and a row of one answer share no memory, spare room too, also where one of them is empty.
func TestListsOfOneStep(t *testing.T) {
	for _, c := range []api.Circuit{stepping(), samples.Right(), {Max: 2, Latches: []api.Latch{{Lit: 4, Next: 4}}, Inputs: []int{2}}, example(), {Max: 1, Latches: []api.Latch{{Lit: 2, Next: 2}}}} {
		for _, flip := range []func(state, row []bool) ([]bool, []bool){
			func(state, row []bool) ([]bool, []bool) { return state, row }, func(state, row []bool) ([]bool, []bool) { return row, state },
		} {
			written, other := flip(stepBy(t, c, make([]bool, c.Max+1)))
			other = other[:cap(other)]
			was := slices.Clone(other)
			samples.Flip(written)
			if !slices.Equal(other, was) {
				t.Errorf("%+v: state and row share memory", c)
			}
		}
	}
}

// R4: lists that share memory with one another are read as any.
func TestSharedLists(t *testing.T) {
	numbers := []int{0, 1, 2, 4, 6}
	c := api.Circuit{Max: 4, Inputs: numbers[2:3], Latches: []api.Latch{{Lit: 4, Next: 6}}, Bads: numbers, Justice: [][]int{numbers, numbers[1:]}, Constraints: numbers[:2], Ands: []api.And{{Out: 6, Left: 4, Right: 3}}}
	truths := samples.Bits("10110")
	asWords(t, calls(), c, given{l: 6, lits: numbers, state: truths[:1], row: truths[:1], model: truths})
	asWords(t, calls(), c, given{l: 6, lits: numbers[2:], state: truths[:1:1], row: truths[1:2], model: truths})
	if !slices.Equal(numbers, []int{0, 1, 2, 4, 6}) || !slices.Equal(truths, samples.Bits("10110")) {
		t.Errorf("changed what was handed in: %v, %v", numbers, truths)
	}
}

// R3: lists that are nil and lists that are empty are the same.
func TestEmptyLists(t *testing.T) {
	empty := api.Circuit{
		Max: 1, Inputs: []int{}, Latches: []api.Latch{}, Outputs: []int{}, Bads: []int{}, Constraints: []int{}, Justice: [][]int{}, Fairness: []int{}, Ands: []api.And{}, Symbols: []api.Symbol{}, Comments: []string{},
	}
	for _, ask := range calls() {
		want := ask.of(api.Circuit{Max: 1}, given{l: 1, model: samples.Bits("01")})
		got := ask.of(empty, given{l: 1, lits: []int{}, state: []bool{}, row: []bool{}, model: samples.Bits("01")})
		if !got.same(want) || want.e != api.OK {
			t.Errorf("%s: %+v, want %+v", ask.name, got, want)
		}
	}
}
