package lits_test

import (
	"math"
	"slices"
	"testing"

	"trestle/api"
	"trestle/lits"
	"trestle/samples"
)

// pivots are all literals of the variables 1 to 4, and numbers that are none.
func pivots() []int {
	return append([]int{1, -1, 2, -2, 3, -3, 4, -4}, noLiterals...)
}

// resolvent is Resolve by the chapter's words, of right clauses of the variables 1 to 3.
func resolvent(a, b api.Clause, pivot int) (api.Clause, api.Errno) {
	_, okA := ordered(a, 3)
	_, okB := ordered(b, 3)
	if !okA || !okB {
		return nil, api.ErrTaut
	}
	if slices.Contains(noLiterals, pivot) {
		return nil, api.ErrRange
	}
	if !slices.Contains(a, pivot) || !slices.Contains(b, -pivot) {
		return nil, api.ErrPivot
	}
	n, ok := ordered(append(lacking(a, pivot), lacking(b, -pivot)...), 3)
	if !ok {
		return nil, api.ErrTaut
	}
	return n, api.OK
}

// 1.5: each two short clauses by each pivot, with the errors in the chapter's order.
func TestResolveShortClauses(t *testing.T) {
	all := samples.Clauses(3, 2)
	all = append(all, api.Clause{1, 2, 3}, api.Clause{-1, -2, -3}, api.Clause{3, 1, 3, -2}, api.Clause{2, -1, 3})
	for _, a := range all {
		for _, b := range all {
			for _, p := range pivots() {
				want, wantE := resolvent(a, b, p)
				if c, e := lits.Resolve(a, b, p); e != wantE || !slices.Equal(c, want) {
					t.Fatalf("Resolve(%v, %v, %d) = %v, %v, want %v, %v", a, b, p, c, e, want, wantE)
				}
			}
		}
	}
}

// 1.8: a model of two clauses is one of what they come to by a pivot, and of what strengthening leaves.
func TestWhatFollowsOfTwo(t *testing.T) {
	for _, a := range samples.Clauses(3, 3) {
		for _, b := range samples.Clauses(3, 3) {
			var come []api.Clause
			for _, p := range a {
				if c, e := lits.Resolve(a, b, p); e == api.OK {
					come = append(come, c)
				}
			}
			if c, ok, e := lits.Strengthen(a, b); ok && e == api.OK {
				come = append(come, c)
			}
			for _, m := range samples.AllLists(3, false, true) {
				if !samples.IsTrue(a, m) || !samples.IsTrue(b, m) {
					continue
				}
				for _, c := range come {
					if !samples.IsTrue(c, m) {
						t.Fatalf("%v makes %v and %v true and not %v", m, a, b, c)
					}
				}
			}
		}
	}
}

// 1.8: a clause that subsumes another one is true by no model by which that is false.
func TestSubsumingIsSound(t *testing.T) {
	for _, a := range samples.Clauses(3, 3) {
		for _, b := range samples.Clauses(3, 3) {
			if ok, e := lits.Subsumes(a, b); !ok || e != api.OK {
				continue
			}
			for _, m := range samples.AllLists(3, false, true) {
				if samples.IsTrue(a, m) && !samples.IsTrue(b, m) {
					t.Fatalf("%v subsumes %v, and %v makes it alone true", a, b, m)
				}
			}
		}
	}
}

// strengthened is Subsumes and Strengthen by the chapter's words, of right clauses of the variables 1 to 3.
func strengthened(a, b api.Clause) (subsumes bool, left api.Clause, ok bool, e api.Errno) {
	m, okA := ordered(a, 3)
	n, okB := ordered(b, 3)
	if !okA || !okB {
		return false, nil, false, api.ErrTaut
	}
	var lacks []int
	for _, x := range m {
		if !slices.Contains(n, x) {
			lacks = append(lacks, x)
		}
	}
	if len(lacks) == 1 && slices.Contains(n, -lacks[0]) {
		return false, lacking(n, -lacks[0]), true, api.OK
	}
	return len(lacks) == 0, nil, false, api.OK
}

// 1.6: each two short clauses.
func TestSubsumeAndStrengthenShortClauses(t *testing.T) {
	for _, a := range samples.Clauses(3, 3) {
		for _, b := range samples.Clauses(3, 3) {
			subsumes, left, ok, e := strengthened(a, b)
			if s, f := lits.Subsumes(a, b); s != subsumes || f != e {
				t.Fatalf("Subsumes(%v, %v) = %v, %v, want %v, %v", a, b, s, f, subsumes, e)
			}
			if c, o, f := lits.Strengthen(a, b); !slices.Equal(c, left) || o != ok || f != e {
				t.Fatalf("Strengthen(%v, %v) = %v, %v, %v, want %v, %v, %v", a, b, c, o, f, left, ok, e)
			}
		}
	}
}

// 1.5, 1.6: the chapter's example 3, units, and the greatest variable.
func TestTwoByExample(t *testing.T) {
	far := api.MaxCnf
	for _, x := range []struct {
		a, b  api.Clause
		pivot int
		want  api.Clause
		e     api.Errno
	}{
		{api.Clause{1, 2}, api.Clause{-1, 3}, 1, api.Clause{2, 3}, api.OK},
		{api.Clause{1, 2}, api.Clause{-1, -2}, 1, nil, api.ErrTaut},
		{api.Clause{1, 2}, api.Clause{-1, 3}, -1, nil, api.ErrPivot},
		{api.Clause{1}, api.Clause{-1}, 1, nil, api.OK},
		{api.Clause{-far, 3}, api.Clause{2, far, 3}, -far, api.Clause{2, 3}, api.OK},
		{api.Clause{-far, 3}, api.Clause{2, far, 3}, far, nil, api.ErrPivot},
	} {
		if c, e := lits.Resolve(x.a, x.b, x.pivot); e != x.e || !slices.Equal(c, x.want) {
			t.Errorf("Resolve(%v, %v, %d) = %v, %v", x.a, x.b, x.pivot, c, e)
		}
	}
	for _, x := range []struct {
		a, b, want api.Clause
		ok         bool
	}{
		{api.Clause{1, 2}, api.Clause{-1, 2, 3}, api.Clause{2, 3}, true},
		{api.Clause{1, 2}, api.Clause{1, 2, 3}, nil, false},
		{api.Clause{1}, api.Clause{-1}, nil, true},
		{api.Clause{far, far}, api.Clause{-far, 1, 1}, api.Clause{1}, true},
		{nil, api.Clause{1}, nil, false},
		{api.Clause{1, 2}, api.Clause{-1, -2}, nil, false},
	} {
		if c, ok, e := lits.Strengthen(x.a, x.b); e != api.OK || ok != x.ok || !slices.Equal(c, x.want) {
			t.Errorf("Strengthen(%v, %v) = %v, %v, %v", x.a, x.b, c, ok, e)
		}
	}
}

// 1.5, 1.6: what is wrong with a, then with b, goes ahead of all else.
func TestTwoOfWhichOneIsWrong(t *testing.T) {
	refuse := func(a, b api.Clause, want api.Errno) {
		t.Helper()
		for _, p := range []int{1, 0, 9, math.MinInt} {
			if c, e := lits.Resolve(a, b, p); e != want || len(c) != 0 {
				t.Errorf("Resolve by %d: %v, %v, want %v", p, c, e, want)
			}
		}
		if s, e := lits.Subsumes(a, b); s || e != want {
			t.Errorf("Subsumes: %v, %v, want %v", s, e, want)
		}
		if c, ok, e := lits.Strengthen(a, b); len(c) != 0 || ok || e != want {
			t.Errorf("Strengthen: %v, %v, %v, want %v", c, ok, e, want)
		}
	}
	for want, list := range wrongClauses() {
		for _, c := range list {
			refuse(c, api.Clause{-1, 2}, want)
			refuse(api.Clause{1, 2}, c, want)
			refuse(api.Clause{1, -1}, c, want)
		}
	}
	long := rising(1, api.MaxItems+1)
	refuse(long, api.Clause{0}, api.ErrLong)
	refuse(api.Clause{0}, long, api.ErrRange)
	refuse(api.Clause{1, -1}, api.Clause{-1}, api.ErrTaut)
	refuse(api.Clause{1}, api.Clause{-1, 1}, api.ErrTaut)
}

// 1.5, 1.6: two clauses of as many literals as may be; the chapter sets no bound to what they come to.
func TestTwoGreatClauses(t *testing.T) {
	a := rising(1, api.MaxItems)
	b := append(api.Clause{-1}, rising(api.MaxItems+1, 2*api.MaxItems-1)...)
	if c, e := lits.Resolve(a, b, 1); e != api.OK || !slices.Equal(c, rising(2, 2*api.MaxItems-1)) {
		t.Error(len(c), e)
	}
	negated := append(api.Clause{-1}, rising(2, api.MaxItems)...)
	if c, ok, e := lits.Strengthen(a, negated); e != api.OK || !ok || !slices.Equal(c, rising(2, api.MaxItems)) {
		t.Error(len(c), ok, e)
	}
	if ok, e := lits.Subsumes(a, a); !ok || e != api.OK {
		t.Error(ok, e)
	}
	if ok, e := lits.Subsumes(a, negated); ok || e != api.OK {
		t.Error(ok, e)
	}
}
