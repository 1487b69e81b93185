package lits_test

import (
	"math/rand"
	"slices"
	"testing"

	"trestle/api"
	"trestle/lits"
	"trestle/samples"
)

// 1.2, 1.7: the normal form of each short clause: it is the one that the chapter's words say, its own one, and has the clause's value.
func TestNormalOfShortClauses(t *testing.T) {
	for _, c := range samples.Clauses(3, 4) {
		want, ok := ordered(c, 3)
		n, e := lits.Normal(c)
		if !ok {
			if e != api.ErrTaut || len(n) != 0 {
				t.Errorf("Normal(%v) = %v, %v, want ErrTaut", c, n, e)
			}
			continue
		}
		if e != api.OK || !slices.Equal(n, want) {
			t.Errorf("Normal(%v) = %v, %v, want %v", c, n, e, want)
		}
		if again, e := lits.Normal(n); e != api.OK || !slices.Equal(again, n) {
			t.Errorf("Normal(%v) = %v, %v", n, again, e)
		}
		for _, m := range samples.AllLists(3, false, true) {
			v, e := lits.Value(c, m)
			w, f := lits.Value(n, m)
			if v != w || e != api.OK || f != api.OK {
				t.Errorf("by %v: %v is %v, %v, its normal form %v, %v", m, c, v, e, w, f)
			}
		}
	}
}

// 1.2: long clauses in any order, of variables up to the greatest one.
func TestNormalOfLongClauses(t *testing.T) {
	r := rand.New(rand.NewSource(1))
	for range 20 {
		sign := map[int]int{}
		var c api.Clause
		for range 2000 {
			v := 1 + r.Intn(api.MaxCnf)
			if sign[v] == 0 {
				sign[v] = v * (1 - 2*r.Intn(2))
			}
			c = append(c, sign[v], sign[v])
		}
		r.Shuffle(len(c), func(i, j int) { c[i], c[j] = c[j], c[i] })
		n, e := lits.Normal(c)
		if e != api.OK || len(n) != len(sign) {
			t.Fatalf("%d literals of %d, %v", len(n), len(sign), e)
		}
		last := 0
		for _, x := range n {
			v := max(x, -x)
			if v <= last || sign[v] != x {
				t.Fatalf("%d behind the variable %d, want %d", x, last, sign[v])
			}
			last = v
		}
		c[r.Intn(len(c))] *= -1
		if n, e := lits.Normal(c); e != api.ErrTaut || len(n) != 0 {
			t.Fatalf("with a literal and its negation: %d literals, %v", len(n), e)
		}
	}
}

// 1.2: the least and greatest literals, and a clause of as many literals as may be.
func TestNormalAtTheLimits(t *testing.T) {
	n, e := lits.Normal(api.Clause{api.MaxCnf, -1, api.MaxCnf - 1, -1})
	if want := (api.Clause{-1, api.MaxCnf - 1, api.MaxCnf}); e != api.OK || !slices.Equal(n, want) {
		t.Error(n, e)
	}
	if n, e := lits.Normal(api.Clause{-api.MaxCnf, 1}); e != api.OK || !slices.Equal(n, api.Clause{1, -api.MaxCnf}) {
		t.Error(n, e)
	}
	if n, e := lits.Normal(api.Clause{-api.MaxCnf, api.MaxCnf}); e != api.ErrTaut || len(n) != 0 {
		t.Error(n, e)
	}
	full := rising(1, api.MaxItems)
	if n, e := lits.Normal(full); e != api.OK || !slices.Equal(n, full) {
		t.Error(len(n), e)
	}
	for _, c := range []api.Clause{nil, {}} {
		if n, e := lits.Normal(c); e != api.OK || len(n) != 0 {
			t.Error(n, e)
		}
	}
}

// wrongClauses are clauses that each call refuses, and how; too long goes ahead of all.
func wrongClauses() map[api.Errno][]api.Clause {
	out := map[api.Errno][]api.Clause{
		api.ErrLong: {rising(1, api.MaxItems+1), zeros(api.MaxItems + 1), slices.Repeat(api.Clause{5}, api.MaxItems+1)},
	}
	for _, x := range noLiterals {
		out[api.ErrRange] = append(out[api.ErrRange], api.Clause{x}, api.Clause{1, -1, x}, api.Clause{x, 2, -2})
	}
	return out
}

// 1.2, 1.3, 1.4: what is wrong with a clause goes ahead of what is wrong with the rest.
func TestWrongClauses(t *testing.T) {
	for want, list := range wrongClauses() {
		for _, c := range list {
			if n, e := lits.Normal(c); e != want || len(n) != 0 {
				t.Errorf("Normal of %d literals: %v, %v, want %v", len(c), n, e, want)
			}
			for _, m := range [][]bool{nil, {true, true}, make([]bool, api.MaxCnf+1)} {
				if v, e := lits.Value(c, m); e != want || v {
					t.Errorf("Value of %d literals: %v, %v, want %v", len(c), v, e, want)
				}
			}
			for _, a := range [][]int{nil, {1}, {0}, {1, -1}, zeros(api.MaxCnf + 1)} {
				if r, ok, e := lits.Rest(c, a); e != want || ok || len(r) != 0 {
					t.Errorf("Rest of %d literals: %v, %v, %v, want %v", len(c), r, ok, e, want)
				}
			}
		}
	}
}

// 1.3: the value of each short clause by each model, clauses that are always true and the empty one too.
func TestValueOfShortClauses(t *testing.T) {
	for _, c := range samples.Clauses(3, 4) {
		for _, m := range samples.AllLists(3, false, true) {
			if v, e := lits.Value(c, m); v != samples.IsTrue(c, m) || e != api.OK {
				t.Errorf("Value(%v, %v) = %v, %v", c, m, v, e)
			}
		}
	}
}

// 1.3: models that are too short, however true the clause's other literals are, and too long.
func TestValueByModelsThatDoNotFit(t *testing.T) {
	for _, c := range []api.Clause{{3}, {-3}, {1, 3}, {3, 1}, {-2, 2, -3}, {1, api.MaxCnf}} {
		if v, e := lits.Value(c, []bool{true, true}); v || e != api.ErrNone {
			t.Errorf("Value(%v) by two truths = %v, %v", c, v, e)
		}
	}
	if v, e := lits.Value(api.Clause{1}, nil); v || e != api.ErrNone {
		t.Error(v, e)
	}
	if v, e := lits.Value(nil, nil); v || e != api.OK {
		t.Error(v, e)
	}
	most := make([]bool, api.MaxCnf)
	most[api.MaxCnf-1] = true
	if v, e := lits.Value(api.Clause{api.MaxCnf}, most); !v || e != api.OK {
		t.Error(v, e)
	}
	if v, e := lits.Value(api.Clause{-api.MaxCnf}, most); v || e != api.OK {
		t.Error(v, e)
	}
	if v, e := lits.Value(api.Clause{-1}, append(most, true)); v || e != api.ErrLong {
		t.Error(v, e)
	}
}

// restOf is Rest by the chapter's words, of a right clause of the variables 1 to 3.
func restOf(c api.Clause, assigned []int) (api.Clause, bool, api.Errno) {
	if _, right := ordered(assigned, 3); !right {
		return nil, false, api.ErrShape
	}
	n, ok := ordered(c, 3)
	if !ok {
		return nil, false, api.ErrTaut
	}
	var rest api.Clause
	for _, x := range n {
		if slices.Contains(assigned, x) {
			return nil, true, api.OK
		}
		if !slices.Contains(assigned, -x) {
			rest = append(rest, x)
		}
	}
	return rest, false, api.OK
}

// 1.4: what is left of each short clause by each short assignment, right or not.
func TestRestOfShortClauses(t *testing.T) {
	for _, c := range samples.Clauses(3, 3) {
		for _, a := range samples.Clauses(3, 3) {
			want, wantTrue, wantE := restOf(c, a)
			r, ok, e := lits.Rest(c, a)
			if !slices.Equal(r, want) || ok != wantTrue || e != wantE {
				t.Fatalf("Rest(%v, %v) = %v, %v, %v, want %v, %v, %v", c, a, r, ok, e, want, wantTrue, wantE)
			}
		}
	}
}

// 1.9: what is left has the clause's value by each model that the assignment goes with.
func TestRestHasTheValue(t *testing.T) {
	for _, c := range samples.Clauses(3, 3) {
		for _, a := range samples.Clauses(3, 2) {
			r, ok, e := lits.Rest(c, a)
			if e != api.OK {
				continue
			}
			for _, m := range samples.AllLists(3, false, true) {
				if agrees(a, m) && samples.IsTrue(c, m) != (ok || samples.IsTrue(r, m)) {
					t.Fatalf("Rest(%v, %v) = %v, %v has not the value by %v", c, a, r, ok, m)
				}
			}
		}
	}
}

// 1.4: the chapter's examples, and variables beyond all that are assigned.
func TestRestByExample(t *testing.T) {
	for _, x := range []struct {
		c, by, rest []int
		ok          bool
	}{
		{[]int{1, 2, -3}, []int{3}, []int{1, 2}, false},
		{[]int{1, 2, -3}, []int{2}, nil, true},
		{[]int{1, 2, -3}, []int{-1, -2, 3}, nil, false},
		{[]int{3, -2, 3}, nil, []int{-2, 3}, false},
		{nil, []int{1, 1, 1}, nil, false},
		{[]int{1, -api.MaxCnf}, []int{api.MaxCnf}, []int{1}, false},
		{[]int{1, -api.MaxCnf}, []int{-api.MaxCnf}, nil, true},
		{[]int{1, -api.MaxCnf}, []int{api.MaxCnf - 1}, []int{1, -api.MaxCnf}, false},
		{[]int{-2, 1}, []int{-2, -2, 3, -2}, nil, true},
	} {
		if r, ok, e := lits.Rest(x.c, x.by); !slices.Equal(r, x.rest) || ok != x.ok || e != api.OK {
			t.Errorf("Rest(%v, %v) = %v, %v, %v", x.c, x.by, r, ok, e)
		}
	}
}

// 1.4: assignments that are not right, each ahead of the clause's having no normal form; of several errors the one that is named first.
func TestRestByWrongAssignments(t *testing.T) {
	type wrong struct {
		by   []int
		want api.Errno
	}
	list := []wrong{
		{zeros(api.MaxCnf + 1), api.ErrLong},
		{rising(1, api.MaxCnf+1), api.ErrLong},
		{slices.Repeat([]int{1}, api.MaxCnf+1), api.ErrLong},
		{[]int{1, -1}, api.ErrShape},
		{[]int{-1, 2, 1}, api.ErrShape},
		{[]int{api.MaxCnf, 1, -api.MaxCnf}, api.ErrShape},
		{[]int{4, 4, -4, -4}, api.ErrShape},
	}
	for _, x := range noLiterals {
		list = append(list, wrong{[]int{x}, api.ErrRange}, wrong{[]int{1, -1, x}, api.ErrRange}, wrong{[]int{x, 1, -1}, api.ErrRange})
	}
	for _, x := range list {
		for _, c := range []api.Clause{nil, {1}, {1, -1}, {4, 9}} {
			if r, ok, e := lits.Rest(c, x.by); e != x.want || ok || len(r) != 0 {
				t.Errorf("Rest(%v) by %d literals: %v, %v, %v, want %v", c, len(x.by), r, ok, e, x.want)
			}
		}
	}
	if r, ok, e := lits.Rest(api.Clause{1, -1, 2}, []int{2}); e != api.ErrTaut || ok || len(r) != 0 {
		t.Error(r, ok, e)
	}
}

// 1.4: an assignment of as many literals as may be, of all variables that there are.
func TestRestByTheGreatestAssignment(t *testing.T) {
	all := rising(1, api.MaxCnf)
	for i := range all {
		if i%2 == 0 {
			all[i] = -all[i]
		}
	}
	slices.Reverse(all)
	if r, ok, e := lits.Rest(api.Clause{1, -2, api.MaxCnf - 1}, all); len(r) != 0 || ok || e != api.OK {
		t.Error(r, ok, e)
	}
	if r, ok, e := lits.Rest(api.Clause{1, api.MaxCnf}, all); len(r) != 0 || !ok || e != api.OK {
		t.Error(r, ok, e)
	}
}
