package lits_test

import (
	"slices"
	"testing"

	"trestle/api"
	"trestle/lits"
)

// call is a call of the package that answers a clause of two lists.
type call struct {
	name string
	ask  func(a, b []int) []int
}

func calls() []call {
	return []call{
		{"Normal", func(a, b []int) []int { c, _ := lits.Normal(a); return c }},
		{"Rest", func(a, b []int) []int { c, _, _ := lits.Rest(a, b); return c }},
		{"Resolve", func(a, b []int) []int { c, _ := lits.Resolve(a, b, 1); return c }},
		{"Strengthen", func(a, b []int) []int { c, _, _ := lits.Strengthen(a, b); return c }},
		{"Value", func(a, b []int) []int { lits.Value(a, []bool{true, false, true}); return nil }},
		{"Subsumes", func(a, b []int) []int { lits.Subsumes(a, b); return nil }},
	}
}

// R4, R7: what is handed in is not changed, spare room too; the answer shares no memory with it, nor with another answer.
func TestMemory(t *testing.T) {
	for _, x := range [][2][]int{
		{{1, 2}, {-1, 2, 3}},
		{{2, 1, 2}, {3, -1, 2, 3}},
		{{1}, {-1}},
		{{3, 2, 1}, {-2}},
		{{3, 1}, nil},
		{nil, nil},
		{{1, -1}, {0}},
	} {
		for _, c := range calls() {
			a, b := guarded(x[0]), guarded(x[1])
			first := c.ask(a, b)
			second := c.ask(a, b)
			kept := slices.Clone(first)
			spoil(second)
			if !slices.Equal(first, kept) {
				t.Errorf("%s: two answers share memory", c.name)
			}
			untouched(t, c.name, a, x[0])
			untouched(t, c.name, b, x[1])
			if third := c.ask(a, b); !slices.Equal(third, kept) {
				t.Errorf("%s: %v, then %v", c.name, kept, third)
			}
			spoil(a)
			spoil(b)
			if !slices.Equal(first, kept) {
				t.Errorf("%s: the answer shares memory with an argument", c.name)
			}
		}
	}
}

// R4: the same list as both arguments; R3: a list without an element may be nil or empty.
func TestLikeArguments(t *testing.T) {
	a := guarded([]int{2, -1, 2})
	if ok, e := lits.Subsumes(a, a); !ok || e != api.OK {
		t.Error(ok, e)
	}
	if c, ok, e := lits.Strengthen(a, a); len(c) != 0 || ok || e != api.OK {
		t.Error(c, ok, e)
	}
	if c, e := lits.Resolve(a, a, 2); len(c) != 0 || e != api.ErrPivot {
		t.Error(c, e)
	}
	untouched(t, "both the same", a, []int{2, -1, 2})
	for _, c := range []api.Clause{nil, {}} {
		for _, d := range [][]int{nil, {}} {
			r, ok, e := lits.Rest(c, d)
			s, f := lits.Subsumes(c, d)
			if len(r) != 0 || ok || e != api.OK || !s || f != api.OK {
				t.Error(r, ok, e, s, f)
			}
		}
	}
}

// 1.3, R4: a model is not changed, nor what lies behind it read.
func TestModelIsNotChanged(t *testing.T) {
	whole := []bool{true, false, true}
	if v, e := lits.Value(api.Clause{3}, whole[:2]); v || e != api.ErrNone {
		t.Error(v, e)
	}
	if v, e := lits.Value(api.Clause{-1, -2}, whole[:2]); !v || e != api.OK {
		t.Error(v, e)
	}
	if !slices.Equal(whole, []bool{true, false, true}) {
		t.Error(whole)
	}
}
