package cnf_test

import (
	"math/rand"
	"slices"
	"testing"

	"trestle/api"
	"trestle/samples"
)

// 14.1: formulas that may be: of no variable, of no clause, with empty clauses, with literals that stand twice, or beside their contraries.
func TestCheckOfRightOnes(t *testing.T) {
	right(t, api.Cnf{}, "p cnf 0 0\n")
	right(t, of(7), "p cnf 7 0\n")
	right(t, of(0, nil), "p cnf 0 1\n0\n")
	right(t, of(0, api.Clause{}, nil), "p cnf 0 2\n0\n0\n")
	right(t, two(), "p cnf 2 2\n1 -2 0\n2 0\n")
	right(t, of(2, api.Clause{2, 2}, api.Clause{-1, 2, -1}), "p cnf 2 2\n2 2 0\n-1 2 -1 0\n")
	right(t, of(2, api.Clause{1, -1}, api.Clause{-2, 1, 2}), "p cnf 2 2\n1 -1 0\n-2 1 2 0\n")
	right(t, of(api.MaxTrial, api.Clause{16}, api.Clause{-16, 1}), "p cnf 16 2\n16 0\n-16 1 0\n")
	right(t, of(api.MaxCnf, api.Clause{api.MaxCnf, -api.MaxCnf}), "p cnf 262144 1\n262144 -262144 0\n")
	for _, empty := range []api.Clause{nil, {}} {
		right(t, of(1, empty, api.Clause{1}, api.Clause{-1}), "p cnf 1 3\n0\n1 0\n-1 0\n")
		right(t, of(1, api.Clause{1}, empty, api.Clause{-1}), "p cnf 1 3\n1 0\n0\n-1 0\n")
		right(t, of(1, api.Clause{1}, api.Clause{-1}, empty), "p cnf 1 3\n1 0\n-1 0\n0\n")
	}
}

// 14.1, R1: numbers of variables that may not be, ahead of too many clauses and of wrong ones.
func TestVarsThatMayNotBe(t *testing.T) {
	lists := [][]api.Clause{nil, {nil}, {{1}}, {{}, {0}}, {zeros(api.MaxItems + 1)}, many(api.MaxClauses, 1), many(api.MaxClauses+1, 0)}
	for _, vars := range noVars() {
		for _, clauses := range lists {
			refuses(t, vars, of(vars, clauses...), 0, api.ErrRange)
		}
	}
}

// 14.1: as many clauses as may be, and more of them, ahead of wrong clauses; and as many variables as may be.
func TestNumberOfClauses(t *testing.T) {
	for _, vars := range []int{0, 1, api.MaxTrial, api.MaxTrial + 1, api.MaxCnf} {
		for _, more := range []int{1, 2, api.MaxClauses} {
			for _, c := range []api.Clause{nil, {vars}, {0}, {vars + 1}, zeros(api.MaxItems + 1)} {
				refuses(t, more, of(vars, many(api.MaxClauses+more, c...)...), 0, api.ErrLong)
			}
		}
		most := of(vars, many(api.MaxClauses)...)
		checked(t, most, 0, api.OK)
		most.Clauses[api.MaxClauses-1] = api.Clause{0}
		refuses(t, "the last one", most, api.MaxClauses-1, api.ErrVar)
		most.Clauses[1] = zeros(api.MaxItems + 1)
		refuses(t, "one ahead of it", most, 1, api.ErrLong)
	}
}

// 14.1: as many literals of a clause as may be, and more of them, ahead of literals that are none; the clause's number, wherever it stands.
func TestNumberOfLiterals(t *testing.T) {
	for at := range 4 {
		for _, x := range []int{1, 2, -3} {
			f := of(3, many(4, -1, 2)...)
			f.Clauses[at] = slices.Repeat([]int{x}, api.MaxItems)
			right(t, f, printOf(f))
		}
		for _, more := range []int{1, 2, api.MaxItems} {
			for _, x := range append(noLiterals(3), 1, -3) {
				f := of(3, many(4, -1, 2)...)
				f.Clauses[at] = slices.Repeat([]int{x}, api.MaxItems+more)
				refuses(t, []int{at, more, x}, f, at, api.ErrLong)
				f.Clauses[3] = api.Clause{0}
				if at < 3 {
					refuses(t, []int{at, more, x}, f, at, api.ErrLong)
				}
			}
		}
	}
}

// 14.1: literals that are none, of all numbers of variables, at each place of each clause.
func TestLiteralsThatMayNotBe(t *testing.T) {
	for _, vars := range []int{0, 1, 3, api.MaxTrial, api.MaxTrial + 1, api.MaxCnf} {
		for _, x := range noLiterals(vars) {
			refuses(t, x, of(vars, api.Clause{x}), 0, api.ErrVar)
			refuses(t, x, of(vars, nil, nil, api.Clause{x}, nil), 2, api.ErrVar)
			if vars == 0 {
				continue
			}
			for clause := range 3 {
				for at := range 3 {
					f := of(vars, api.Clause{vars, -vars, 1}, api.Clause{-1, 1, -1}, api.Clause{1, vars, vars})
					f.Clauses[clause][at] = x
					refuses(t, []int{clause, at, x}, f, clause, api.ErrVar)
				}
			}
		}
	}
}

// R1: of two wrong clauses the first one is told; in a clause its length goes ahead of its literals.
func TestTwoWrongClauses(t *testing.T) {
	wrong := []struct {
		c    api.Clause
		want api.Errno
	}{{api.Clause{0}, api.ErrVar}, {api.Clause{1, 2, 3}, api.ErrVar}, {slices.Repeat([]int{1}, api.MaxItems+1), api.ErrLong}, {zeros(api.MaxItems + 1), api.ErrLong}}
	for _, a := range wrong {
		for _, b := range wrong {
			for first := range 3 {
				for second := first + 1; second < 4; second++ {
					f := of(2, many(4, 1, -2)...)
					f.Clauses[first], f.Clauses[second] = a.c, b.c
					refuses(t, []int{first, second}, f, first, a.want)
				}
			}
		}
	}
}

// 14.1: all small formulas with wrong literals among the right ones.
func TestCheckOfSmallOnes(t *testing.T) {
	seen := map[api.Errno]int{}
	var clauses []api.Clause
	for n := range 3 {
		for _, l := range samples.AllLists(n, 0, 1, -1, 2, -2) {
			clauses = append(clauses, l)
		}
	}
	for n := range 3 {
		for _, list := range samples.AllLists(n, clauses...) {
			for vars := -1; vars < 3; vars++ {
				seen[checkedAsWords(t, of(vars, list...))]++
			}
		}
	}
	if len(seen) != 3 || min(seen[api.OK], seen[api.ErrVar], seen[api.ErrRange]) < 500 {
		t.Errorf("%v", seen)
	}
}

// 14.1: formulas by chance, of which one or two numbers are put anywhere.
func TestCheckByChance(t *testing.T) {
	r := rand.New(rand.NewSource(140))
	seen := map[api.Errno]int{}
	for range 5000 {
		f := samples.Formula(r.Intn(9), r.Intn(9), r.Intn)
		for range r.Intn(3) {
			if len(f.Clauses) == 0 || r.Intn(4) == 0 {
				f.Vars = append(noVars(), 0, 1, 2, 5, 16, 17)[r.Intn(len(noVars())+6)]
				continue
			}
			at := r.Intn(len(f.Clauses))
			f.Clauses[at] = append(slices.Clone(f.Clauses[at]), append(noLiterals(8), 1, -2)[r.Intn(len(noLiterals(8))+2)])
		}
		seen[checkedAsWords(t, f)]++
	}
	if len(seen) != 3 || min(seen[api.OK], seen[api.ErrVar], seen[api.ErrRange]) < 500 {
		t.Errorf("%v", seen)
	}
}
