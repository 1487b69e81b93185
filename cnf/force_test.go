package cnf_test

import (
	"math/rand"
	"slices"
	"testing"

	"trestle/api"
	"trestle/cnf"
	"trestle/samples"
)

// 14.4: the chapter's examples; clauses of one literal, also of one that stands twice; empty ones; literals beside their contraries.
func TestForceByExample(t *testing.T) {
	forces(t, two(), nil, 1, 2)
	cannot(t, two(), -1)
	f := of(3, api.Clause{1, 2}, api.Clause{-1, 3})
	forces(t, f, nil)
	forces(t, f, []int{-2}, 1, -2, 3)
	forces(t, f, []int{1}, 1, 3)
	cannot(t, f, -3, -2)
	cannot(t, f, 1, -1)
	cannot(t, api.Cnf{Vars: 1}, -1, 1)
	forces(t, api.Cnf{}, nil)
	cannot(t, of(0, nil))
	cannot(t, of(2, api.Clause{1}, nil), 2)
	forces(t, of(3, api.Clause{-2, -2, -2}), nil, -2)
	forces(t, of(3, api.Clause{1, 2, 1, 2}), []int{-2}, 1, -2)
	cannot(t, of(3, api.Clause{1, 2, 1, 2}), -2, -1)
	cannot(t, of(3, api.Clause{1, 1}, api.Clause{-1, -1}))
	forces(t, of(3, api.Clause{1, -1}, api.Clause{2, -2, 3}), []int{-3}, -3)
	forces(t, of(3, api.Clause{1, -1, 2}), []int{-2}, -2)
	forces(t, of(3, api.Clause{3, 3, 3}), []int{2, 1, 2}, 1, 2, 3)
	forces(t, of(9), []int{9, -4, 9, 2, -4}, 2, -4, 9)
}

// 14.4: literals that are forced twice, whose contrary is forced, and that are given ahead of being forced.
func TestForceTwice(t *testing.T) {
	forces(t, of(3, api.Clause{-1, 3}, api.Clause{-2, 3}), []int{1, 2}, 1, 2, 3)
	forces(t, of(3, api.Clause{-1, 3}, api.Clause{-2, 3}), []int{1, 3, 2}, 1, 2, 3)
	cannot(t, of(3, api.Clause{-1, 3}, api.Clause{-2, -3}), 1, 2)
	cannot(t, of(3, api.Clause{-1, 3}, api.Clause{-2, 3}), 1, -3)
	cannot(t, of(4, api.Clause{-1, 2}, api.Clause{-1, 3}, api.Clause{-2, -3, 4}, api.Clause{-2, -3, -4}), 1)
	cannot(t, of(3, api.Clause{1}, api.Clause{2}, api.Clause{-1, -2}))
	forces(t, of(3, many(1000, -1, 2)...), []int{1}, 1, 2)
	cannot(t, of(3, append(many(1000, -1, 2), api.Clause{-2})...), 1)
	forces(t, of(3, append(many(1000, -1, 2), api.Clause{-2})...), nil, -1, -2)
}

// 14.4: all small formulas by all short lists of literals, against the chapter's words.
func TestForceOfSmallOnes(t *testing.T) {
	seen := map[bool]int{}
	for n := range 4 {
		for _, list := range samples.AllLists(n, samples.Clauses(2, 2)...) {
			for _, given := range samples.Clauses(2, 2) {
				seen[forcedAsWords(t, of(2, list...), given)]++
			}
		}
	}
	for n := range 3 {
		for _, list := range samples.AllLists(n, samples.Clauses(3, 2)...) {
			for _, given := range samples.Clauses(3, 2) {
				seen[forcedAsWords(t, of(3, list...), given)]++
			}
		}
	}
	for _, c := range samples.Clauses(3, 4) {
		for _, given := range samples.Clauses(3, 3) {
			seen[forcedAsWords(t, of(3, c), given)]++
		}
	}
	if min(seen[true], seen[false]) < 50000 {
		t.Errorf("%v", seen)
	}
}

// 14.4: formulas by chance of more variables, against the chapter's words.
func TestForceByChance(t *testing.T) {
	r := rand.New(rand.NewSource(147))
	seen := map[bool]int{}
	for range 20000 {
		vars := 1 + r.Intn(30)
		f := samples.Formula(vars, r.Intn(2*vars), r.Intn)
		var given []int
		for range r.Intn(4) {
			given = append(given, (1+r.Intn(vars))*(1-2*r.Intn(2)))
		}
		seen[forcedAsWords(t, f, given)]++
	}
	if min(seen[true], seen[false]) < 3000 {
		t.Errorf("%v", seen)
	}
}

// chain is a formula of so many variables in which each one, true, forces the next one, told in an order: as the variables rise, as they fall, or any.
func chain(vars int, order string, r *rand.Rand) api.Cnf {
	f := of(vars)
	for v := 1; v < vars; v++ {
		f.Clauses = append(f.Clauses, api.Clause{-v, v + 1})
	}
	switch order {
	case "falling":
		slices.Reverse(f.Clauses)
	case "any":
		r.Shuffle(len(f.Clauses), func(i, k int) { f.Clauses[i], f.Clauses[k] = f.Clauses[k], f.Clauses[i] })
	}
	return f
}

// rising is the literals from the first to the last one.
func rising(first, last int) []int {
	var l []int
	for x := first; x <= last; x++ {
		l = append(l, x)
	}
	return l
}

// 14.4: literals that are forced one by one over as many variables as may be, in whatever order the clauses stand.
func TestForceOverManyClauses(t *testing.T) {
	r := rand.New(rand.NewSource(148))
	for _, order := range []string{"rising", "falling", "any"} {
		for _, vars := range []int{2, 3, 100, api.MaxCnf} {
			f := chain(vars, order, r)
			forces(t, f, nil)
			forces(t, f, []int{1}, rising(1, vars)...)
			forces(t, f, []int{vars / 2}, rising(max(1, vars/2), vars)...)
			falling := rising(-vars, -1)
			slices.Reverse(falling)
			forces(t, f, []int{-vars}, falling...)
			cannot(t, f, 1, -vars)
			cannot(t, of(vars, append(f.Clauses, api.Clause{-vars})...), 1)
			cannot(t, of(vars, append(f.Clauses, api.Clause{-vars}, api.Clause{1})...))
			forces(t, of(vars, append(f.Clauses, api.Clause{1})...), nil, rising(1, vars)...)
		}
	}
}

// 14.4: clauses of as many literals as may be, of which one is left, or none.
func TestForceOfLongClauses(t *testing.T) {
	const n = api.MaxItems
	var negated []int
	for v := 1; v < n; v++ {
		negated = append(negated, -v)
	}
	long := rising(1, n)
	forces(t, of(n, long), negated[:n-2], negated[:n-2]...)
	forces(t, of(n, long), negated, append(slices.Clone(negated), n)...)
	cannot(t, of(n, long), append(slices.Clone(negated), -n)...)
	slices.Reverse(long)
	forces(t, of(n+1, long, api.Clause{-n, n + 1}), negated, append(slices.Clone(negated), n, n+1)...)
	cannot(t, of(n+1, api.Clause{-n, -1}, long, api.Clause{-n, 1}), negated...)
	forces(t, of(5, slices.Repeat(api.Clause{4, -5}, n/2)), []int{5}, 4, 5)
	forces(t, of(5, slices.Repeat(api.Clause{4}, n)), nil, 4)
	// Each literal alone, from the last one on: each of them is false, but by one clause all are looked at.
	var clauses []api.Clause
	for _, x := range negated {
		clauses = append(clauses, api.Clause{x})
	}
	forces(t, of(n, append(many(500, long...), clauses...)...), nil, append(slices.Clone(negated), n)...)
}

// 14.4: as many clauses as may be, all forced by one literal; and none of them.
func TestForceOfManyClauses(t *testing.T) {
	f := of(api.MaxCnf)
	for i := range api.MaxClauses {
		f.Clauses = append(f.Clauses, api.Clause{2 + i%(api.MaxCnf-1), -1})
	}
	forces(t, f, nil)
	forces(t, f, []int{1}, rising(1, api.MaxCnf)...)
	forces(t, f, []int{-1}, -1)
	f.Clauses[api.MaxClauses-1] = api.Clause{-api.MaxCnf}
	cannot(t, f, 1)
	f.Clauses[0] = nil
	cannot(t, f)
}

// 14.4: literals that are none, too many of them, in the order in which the chapter names these.
func TestForceByWrongLiterals(t *testing.T) {
	unforced := func(f api.Cnf, given []int, want api.Errno) {
		t.Helper()
		if l, ok, e := cnf.Force(f, given); len(l) > 0 || ok || e != want {
			t.Fatalf("%+v by %s: %s, want %v", f, brief(given), brief(l, ok, e), want)
		}
	}
	for _, vars := range []int{0, 1, 3, api.MaxTrial + 1, api.MaxCnf} {
		for _, clauses := range [][]api.Clause{nil, {nil}, {{1}}, {{1}, {-1}}} {
			if vars == 0 && len(clauses) > 0 && len(clauses[0]) > 0 {
				continue
			}
			f := of(vars, clauses...)
			for _, x := range noLiterals(vars) {
				unforced(f, []int{x}, api.ErrVar)
				unforced(f, slices.Repeat([]int{x}, api.MaxItems), api.ErrVar)
				unforced(f, slices.Repeat([]int{x}, api.MaxItems+1), api.ErrLong)
				if vars > 0 {
					unforced(f, []int{1, -1, x}, api.ErrVar)
					unforced(f, []int{x, vars, -vars}, api.ErrVar)
					unforced(f, append(slices.Repeat([]int{vars}, api.MaxItems-1), x), api.ErrVar)
				}
			}
			for _, n := range []int{1, 2, api.MaxItems} {
				unforced(f, slices.Repeat([]int{1}, api.MaxItems+n), api.ErrLong)
			}
		}
	}
	forces(t, of(9), slices.Repeat([]int{9, -7}, api.MaxItems/2), -7, 9)
}
