package cnf_test

import (
	"slices"
	"testing"

	"trestle/api"
	"trestle/cnf"
	"trestle/samples"
)

// What stands in the spare room of what is handed in: literals that are right, and ones that are not.
func guards() []int { return []int{1, -1, 2, 98} }

// answer is what a call of a formula answers, as a formula.
type answer struct {
	f  api.Cnf
	ok bool
	e  api.Errno
}

// sameAnswer tells whether two answers have the same members.
func sameAnswer(a, b answer) bool {
	return samples.SameFormula(a.f, b.f) && a.ok == b.ok && a.e == b.e
}

// truthsAs is a model as a formula.
func truthsAs(model []bool) api.Cnf { return of(len(model), against(model)) }

// calls is all calls that take formulas; literals and a model stand beside the formulas.
func calls() map[string]func(a, b api.Cnf, l []int, m []bool) answer {
	return map[string]func(a, b api.Cnf, l []int, m []bool) answer{
		"Check": func(a, _ api.Cnf, _ []int, _ []bool) answer { at, e := cnf.Check(a); return answer{of(at), false, e} },
		"Print": func(a, _ api.Cnf, _ []int, _ []bool) answer {
			s, e := cnf.Print(a)
			return answer{of(len(s)), s == "", e}
		},
		"Holds": func(a, _ api.Cnf, _ []int, m []bool) answer {
			ok, at, e := cnf.Holds(a, m)
			return answer{of(at), ok, e}
		},
		"Models": func(a, _ api.Cnf, _ []int, _ []bool) answer { n, e := cnf.Models(a); return answer{of(n), false, e} },
		"Least": func(a, _ api.Cnf, _ []int, _ []bool) answer {
			m, e := cnf.Least(a)
			return answer{truthsAs(m), false, e}
		},
		"Force": func(a, _ api.Cnf, l []int, _ []bool) answer {
			l, ok, e := cnf.Force(a, l)
			return answer{of(0, l), ok, e}
		},
		"Join": func(a, b api.Cnf, _ []int, _ []bool) answer { f, e := cnf.Join(a, b); return answer{f, false, e} },
		"Same": func(a, b api.Cnf, _ []int, _ []bool) answer { return answer{ok: cnf.Same(a, b)} },
	}
}

// handedIn is formulas that may be, and ones that may not.
func handedIn() []api.Cnf {
	return []api.Cnf{
		{}, of(3), two(), of(3, api.Clause{1, -2}, nil, api.Clause{2, 2}), of(3, api.Clause{1, -1, 3}, api.Clause{-3}, api.Clause{2, 3}), of(3, api.Clause{3, 2, 1, 3}, api.Clause{-3}, api.Clause{-2}), of(2, nil),
		of(-1, api.Clause{1}), of(2, api.Clause{1}, api.Clause{0}), of(2, api.Clause{1, 3}, api.Clause{2}),
	}
}

// R4, R7: what is handed in is not changed, spare room too, nor read behind its length, nor kept; the same call tells the same.
func TestMemoryOfArguments(t *testing.T) {
	list := [][]int{nil, {1}, {-2, 1}, {1, -1}, {0}, {9}}
	for name, call := range calls() {
		seen := map[api.Errno]int{}
		for i, f := range handedIn() {
			g := handedIn()[(i+3)%len(handedIn())]
			for k, l := range list {
				m := samples.Bits([]string{"", "101", "11", "01", "111", "000"}[k])
				want := call(f, g, l, m)
				seen[want.e]++
				for _, by := range guards() {
					a, b, given, model := samples.GuardedFormula(f, by), samples.GuardedFormula(g, by), samples.GuardedList(l, by), samples.GuardedList(m, by > 0)
					wasA, wasB, wasGiven, wasModel := samples.WholeFormula(a), samples.WholeFormula(b), slices.Clone(given[:cap(given)]), slices.Clone(model[:cap(model)])
					got := call(a, b, given, model)
					if !samples.SameFormula(samples.WholeFormula(a), wasA) || !samples.SameFormula(samples.WholeFormula(b), wasB) || !slices.Equal(given[:cap(given)], wasGiven) || !slices.Equal(model[:cap(model)], wasModel) {
						t.Fatalf("%s of %+v, %+v, %v, %v: changed what was handed in", name, f, g, l, m)
					}
					samples.SpoilFormula(a)
					samples.SpoilFormula(b)
					samples.Fill(given, 99)
					samples.Flip(model)
					call(a, b, given, model)
					if again := call(f, g, l, m); !sameAnswer(got, want) || !sameAnswer(again, want) {
						t.Fatalf("%s of %+v, %+v, %v, %v: %+v, then %+v, want %+v", name, f, g, l, m, got, again, want)
					}
				}
			}
		}
		if name != "Same" && (seen[api.OK] == 0 || seen[api.ErrRange] == 0 || seen[api.ErrVar] == 0) {
			t.Errorf("%s: %v", name, seen)
		}
	}
}

// R4: what Join answers shares no memory with what was handed in, nor with another answer, also where both are the same.
func TestMemoryOfJoin(t *testing.T) {
	f := of(3, api.Clause{1, -2}, api.Clause{}, api.Clause{3})
	for _, g := range []api.Cnf{f, two(), {}, of(3)} {
		want := of(3, slices.Concat(f.Clauses, g.Clauses)...)
		want = samples.GuardedFormula(want, 98)
		a, b := samples.GuardedFormula(f, 1), samples.GuardedFormula(g, 1)
		first, _ := cnf.Join(a, b)
		second, _ := cnf.Join(a, b)
		samples.SpoilFormula(second)
		samples.SpoilFormula(a)
		samples.SpoilFormula(b)
		if !samples.SameFormula(first, want) {
			t.Errorf("%+v, want %+v", first, want)
		}
		a = samples.GuardedFormula(f, 1)
		was := samples.WholeFormula(a)
		first, _ = cnf.Join(a, a)
		samples.SpoilFormula(first)
		if !samples.SameFormula(samples.WholeFormula(a), was) {
			t.Errorf("the answer has what was handed in: %+v", a)
		}
		joins(t, f, g, want)
	}
}

// R4: no two clauses of one answer share memory, spare room too, also where those that were handed in do, or lie one behind the other.
func TestClausesOfOneAnswer(t *testing.T) {
	numbers := []int{1, 2, -3, 1, 2, 3, -1}
	shared := of(3, numbers[:2], numbers[2:4], numbers[:2], numbers[1:5], numbers[6:], numbers[3:3], numbers[:0], numbers)
	want := samples.GuardedFormula(of(3, slices.Concat(shared.Clauses, shared.Clauses)...), 98)
	f, e := cnf.Join(shared, shared)
	if !samples.SameFormula(f, want) || e != api.OK {
		t.Fatalf("%+v, %v", f, e)
	}
	if !samples.Apart(f) {
		t.Errorf("clauses share memory: %+v", f)
	}
	if !slices.Equal(numbers, []int{1, 2, -3, 1, 2, 3, -1}) {
		t.Errorf("changed what was handed in: %v", numbers)
	}
	right(t, shared, printOf(shared))
	triedAsWords(t, shared)
	forcedAsWords(t, shared, numbers[:2])
	s := "p cnf 3 9\n1 0 1 2 0 0 1 2 3 0 1 2 3 1 0 0 1 2 3 1 2 0 1 2 3 1 2 3 0 -1 0"
	f, _ = cnf.Parse(s)
	again, _ := cnf.Parse(s)
	if !samples.Apart(f) {
		t.Errorf("clauses share memory: %+v", f)
	}
	want, _ = parseOf(s)
	if !samples.SameFormula(again, want) {
		t.Errorf("two answers share memory: %+v", again)
	}
	reads(t, s, want)
}

// R4: what Least and Force answer is new memory each time: written over, it changes no later answer, and none ahead of it; what Force is given is not its answer.
func TestMemoryOfLists(t *testing.T) {
	f := of(3, api.Clause{1, 2}, api.Clause{-1, 3})
	first, _ := cnf.Least(f)
	second, _ := cnf.Least(f)
	samples.Flip(second)
	if !slices.Equal(first, samples.Bits("010")) {
		t.Errorf("two answers share memory: %v", first)
	}
	hasModels(t, f, 4, "010")
	for _, given := range [][]int{{1, 3}, {1}, {-2}} {
		g := samples.GuardedList(given, 98)
		was := slices.Clone(g[:cap(g)])
		one, _, _ := cnf.Force(f, g)
		want := slices.Clone(one)
		other, _, _ := cnf.Force(f, g)
		samples.Fill(other, 99)
		if !slices.Equal(one, want) || !slices.Equal(g[:cap(g)], was) {
			t.Errorf("%v, %v: an answer shares memory", one, g)
		}
		samples.Fill(g, 97)
		if !slices.Equal(one, want) {
			t.Errorf("%v shares memory with what was handed in", one)
		}
		forces(t, f, given, want...)
	}
	hasModels(t, f, 4, "010")
}

// R3: lists that are nil and lists that are empty are the same.
func TestEmptyLists(t *testing.T) {
	for _, none := range [][]api.Clause{nil, {}} {
		for _, empty := range []api.Clause{nil, {}} {
			f := api.Cnf{Vars: 1, Clauses: none}
			right(t, f, "p cnf 1 0\n")
			hasModels(t, f, 2, "0")
			forces(t, f, empty)
			holdsBut(t, api.Cnf{Clauses: none}, []bool{}, -1)
			holdsBut(t, api.Cnf{Clauses: none}, nil, -1)
			g := of(1, empty)
			right(t, g, "p cnf 1 1\n0\n")
			hasModels(t, g, 0, "")
			cannot(t, g, empty...)
			holdsBut(t, of(0, empty), nil, 0)
			joins(t, f, g, g)
			same(t, g, of(1, nil), true)
		}
	}
}
