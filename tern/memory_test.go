package tern_test

import (
	"slices"
	"testing"

	"trestle/api"
	"trestle/samples"
	"trestle/shape"
	"trestle/tern"
)

// given is what is handed in beside a circuit.
type given struct{ latches, inputs, lits []int }

// guarded is copies of the lists with numbers behind them.
func (g given) guarded(by int) given {
	return given{samples.GuardedList(g.latches, by), samples.GuardedList(g.inputs, by), samples.GuardedList(g.lits, by)}
}

// whole is copies of the lists with all that stands in their spare room.
func (g given) whole() [3][]int {
	all := [3][]int{g.latches, g.inputs, g.lits}
	for i, l := range all {
		all[i] = slices.Clone(l[:cap(l)])
	}
	return all
}

// spoil writes over all that belongs to the lists.
func (g given) spoil() {
	for _, l := range [...][]int{g.latches, g.inputs, g.lits} {
		samples.Fill(l, 99)
	}
}

// sameLists tells whether two times three lists have the same members.
func sameLists(a, b [3][]int) bool {
	return slices.Equal(a[0], b[0]) && slices.Equal(a[1], b[1]) && slices.Equal(a[2], b[2])
}

// answer is what a call told, a list with its spare room.
type answer struct {
	row []int
	n   int
	e   api.Errno
}

// same tells whether two answers tell the same.
func (a answer) same(b answer) bool { return slices.Equal(a.row, b.row) && a.n == b.n && a.e == b.e }

// calls is all calls of the package, of a circuit, two rows and literals; Lit takes the first literal, Join both rows.
func calls() map[string]func(c api.Circuit, g given) answer {
	return map[string]func(c api.Circuit, g given) answer{
		"Values": func(c api.Circuit, g given) answer {
			l, e := tern.Values(c, g.latches, g.inputs)
			return answer{l, 0, e}
		},
		"Step": func(c api.Circuit, g given) answer { l, e := tern.Step(c, g.latches, g.inputs); return answer{l, 0, e} },
		"Lit": func(_ api.Circuit, g given) answer {
			n, e := tern.Lit(g.latches, firstOf(g.lits))
			return answer{nil, n, e}
		},
		"Resets": func(c api.Circuit, _ given) answer { l, e := tern.Resets(c); return answer{l, 0, e} },
		"Settle": func(c api.Circuit, _ given) answer { l, n, e := tern.Settle(c); return answer{l, n, e} },
		"Join":   func(_ api.Circuit, g given) answer { l, e := tern.Join(g.latches, g.inputs); return answer{l, 0, e} },
		"Lift": func(c api.Circuit, g given) answer {
			l, e := tern.Lift(c, g.latches, g.inputs, g.lits)
			return answer{l, 0, e}
		},
	}
}

// firstOf is a list's first member, or 0.
func firstOf(l []int) int {
	if len(l) == 0 {
		return 0
	}
	return l[0]
}

// asked is circuits, right and wrong ones, and what is handed in beside them, right or not.
func asked() ([]api.Circuit, []given) {
	square := samples.Right()
	square.Inputs, square.Latches[0].Lit, square.Latches[0].Reset = []int{8, 2, 10}, 6, 0
	still := samples.Right()
	for i, l := range still.Latches {
		still.Latches[i].Next = l.Lit
	}
	circuits := []api.Circuit{samples.Right(), square, still, holder(), {Max: 3, Inputs: []int{2, 4}}, {}}
	for _, f := range samples.Faults() {
		circuits = append(circuits, f.Circuit())
	}
	return circuits, []given{
		{row("012"), row("02"), []int{25, 1}}, {row("111"), row("11"), []int{6, 14, 4, 14}}, {row("000"), row("00"), nil}, {row("012"), row("021"), []int{1}},
		{row("00"), nil, []int{6, 3}}, {row("12"), nil, []int{2}}, {nil, row("12"), []int{2}}, {nil, nil, []int{1}}, {row("01"), row("20"), []int{0}},
		{row("012"), row("02"), []int{0}}, {row("012"), row("02"), []int{1, 26}}, {row("013"), row("02"), []int{1}}, {row("012"), row("3"), []int{4}}, {},
	}
}

// R4, R7: what is handed in is not changed, spare room too, nor read behind its length; an answer shares no memory with it, nor with another answer, and is the same the next time.
func TestMemory(t *testing.T) {
	circuits, all := asked()
	told := map[string]int{}
	for _, x := range circuits {
		for _, y := range all {
			for name, ask := range calls() {
				want := ask(x, y)
				want.row = slices.Clone(want.row)
				for _, by := range []int{-7, 1} {
					c, g := samples.Guarded(x), y.guarded(by)
					was, wasGiven := samples.Whole(c), g.whole()
					first, second := ask(c, g), ask(c, g)
					samples.Fill(second.row, 99)
					if !shape.Same(samples.Whole(c), was) || !sameLists(g.whole(), wasGiven) {
						t.Fatalf("%s of %+v, %+v: changed what was handed in", name, x, y)
					}
					third := ask(c, g)
					samples.Spoil(c)
					g.spoil()
					if !first.same(want) || !third.same(want) {
						t.Fatalf("%s of %+v, %+v: %+v, then %+v, want %+v", name, x, y, first, third, want)
					}
				}
				if want.e == api.OK {
					told[name]++
				}
			}
		}
	}
	for name, n := range told {
		if n < 5 {
			t.Errorf("%s answered but %d times", name, n)
		}
	}
	if len(told) != 7 {
		t.Errorf("answers but of %v", told)
	}
}

// R4: rows and literals that share memory with one another are read as any; so is a row of which nothing is changed.
func TestSharedRows(t *testing.T) {
	one := row("10122")
	c := api.Circuit{Max: 5, Inputs: []int{2, 4}, Latches: []api.Latch{{Lit: 6, Next: 4}, {Lit: 8, Next: 2}}, Ands: []api.And{{Out: 10, Left: 6, Right: 2}}}
	asWords(t, c, one[:2], one[:2])
	asWords(t, c, one[1:3], one[2:4])
	lifts(t, c, one[:2], one[1:3], one[2:3], row("22"))
	lifts(t, c, one[:2], one[:2], []int{10}, row("12"))
	joins(t, one[:3], one[:3], row("101"))
	joins(t, one[:3], one[1:4], row("222"))
	if !slices.Equal(one, row("10122")) {
		t.Errorf("changed what was handed in: %v", one)
	}
}

// R3: lists that are nil and lists that are empty are the same.
func TestEmptyLists(t *testing.T) {
	empty := api.Circuit{
		Inputs: []int{}, Latches: []api.Latch{}, Outputs: []int{}, Bads: []int{}, Constraints: []int{}, Justice: [][]int{}, Fairness: []int{}, Ands: []api.And{}, Symbols: []api.Symbol{}, Comments: []string{},
	}
	for name, ask := range calls() {
		want := ask(api.Circuit{}, given{})
		if got := ask(empty, given{[]int{}, []int{}, []int{}}); !got.same(want) || want.e != api.OK && name != "Lit" {
			t.Errorf("%s: %+v, want %+v", name, got, want)
		}
	}
}
