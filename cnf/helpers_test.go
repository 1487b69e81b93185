package cnf_test

import (
	"fmt"
	"math"
	"slices"
	"strings"
	"testing"

	"trestle/api"
	"trestle/cnf"
	"trestle/samples"
)

// of is a formula of so many variables and some clauses.
func of(vars int, clauses ...api.Clause) api.Cnf { return api.Cnf{Vars: vars, Clauses: clauses} }

// two is a right formula that has models.
func two() api.Cnf { return of(2, api.Clause{1, -2}, api.Clause{2}) }

// many is n clauses, all the same.
func many(n int, c ...int) []api.Clause { return slices.Repeat([]api.Clause{c}, n) }

// zeros is n numbers that are no literals.
func zeros(n int) []int { return make([]int, n) }

// noVars is numbers of variables that may not be.
func noVars() []int {
	return []int{-1, -2, math.MinInt, math.MinInt + 1, api.MaxCnf + 1, api.MaxCnf + 2, 2 * api.MaxCnf, math.MaxInt}
}

// noLiterals is numbers that are no literals of so many variables.
func noLiterals(vars int) []int {
	return []int{0, vars + 1, -vars - 1, vars + 2, math.MaxInt, math.MinInt, math.MinInt + 1, -math.MaxInt + 1}
}

// brief is something as it can be told, if it is too long.
func brief(x ...any) string {
	s := fmt.Sprintf("%+v", x)
	if len(s) > 3000 {
		return s[:1500] + " .. " + s[len(s)-500:]
	}
	return s
}

// reads holds Parse of a text against the formula that it is.
func reads(t *testing.T, s string, want api.Cnf) {
	t.Helper()
	if f, fault := cnf.Parse(s); !samples.SameFormula(f, want) || fault != (api.Fault{}) {
		t.Fatalf("%s: %s, %v, want %s", samples.Short(s), brief(f), fault, brief(want))
	}
}

// unread holds Parse of a text against the fault that is wanted; beside it there must be nothing.
func unread(t *testing.T, s string, at int, code api.Errno) {
	t.Helper()
	f, fault := cnf.Parse(s)
	if want := (api.Fault{At: at, Code: code}); fault != want || !samples.SameFormula(f, api.Cnf{}) {
		t.Fatalf("%s: %s, %v, want %v", samples.Short(s), brief(f), fault, want)
	}
}

// checked holds Check of a formula against what is wanted.
func checked(t *testing.T, f api.Cnf, at int, want api.Errno) {
	t.Helper()
	if i, e := cnf.Check(f); i != at || e != want {
		t.Fatalf("%s: Check: %d, %v, want %d, %v", brief(f), i, e, at, want)
	}
}

// right holds Check and Print of a formula that may be against its text, and Parse of that against the formula.
func right(t *testing.T, f api.Cnf, text string) {
	t.Helper()
	checked(t, f, 0, api.OK)
	if s, e := cnf.Print(f); s != text || e != api.OK {
		t.Fatalf("%s: %s, %v, want %s", brief(f), samples.Short(s), e, samples.Short(text))
	}
	reads(t, text, f)
}

// refuses holds all calls of a formula against what Check is to refuse of it; whatever else is handed in, beside the error there must be nothing.
func refuses(t *testing.T, what any, f api.Cnf, at int, want api.Errno) {
	t.Helper()
	if i, e := cnf.Check(f); i != at || e != want {
		t.Fatalf("%s: Check: %d, %v, want %d, %v", brief(what), i, e, at, want)
	}
	if s, e := cnf.Print(f); s != "" || e != want {
		t.Fatalf("%s: Print: %s, %v, want %v", brief(what), samples.Short(s), e, want)
	}
	if n, e := cnf.Models(f); n != 0 || e != want {
		t.Fatalf("%s: Models: %d, %v, want %v", brief(what), n, e, want)
	}
	if m, e := cnf.Least(f); len(m) > 0 || e != want {
		t.Fatalf("%s: Least: %v, %v, want %v", brief(what), m, e, want)
	}
	for _, n := range []int{0, 1, max(0, min(f.Vars, api.MaxCnf+1))} {
		if ok, i, e := cnf.Holds(f, make([]bool, n)); ok || i != 0 || e != want {
			t.Fatalf("%s: Holds: %v, %d, %v, want %v", brief(what), ok, i, e, want)
		}
	}
	for _, l := range [][]int{nil, {1}, {0}, zeros(api.MaxItems + 1)} {
		if l, ok, e := cnf.Force(f, l); len(l) > 0 || ok || e != want {
			t.Fatalf("%s: Force: %v, %v, %v, want %v", brief(what), l, ok, e, want)
		}
	}
	unjoined(t, what, f, two(), want)
	unjoined(t, what, two(), f, want)
	unjoined(t, what, f, f, want)
}

// unjoined holds Join against the error that is wanted; beside it there must be nothing.
func unjoined(t *testing.T, what any, a, b api.Cnf, want api.Errno) {
	t.Helper()
	if f, e := cnf.Join(a, b); !samples.SameFormula(f, api.Cnf{}) || e != want {
		t.Fatalf("%s: Join: %s, %v, want %v", brief(what), brief(f), e, want)
	}
}

// joins holds Join of two formulas against what they come to.
func joins(t *testing.T, a, b, want api.Cnf) {
	t.Helper()
	if f, e := cnf.Join(a, b); !samples.SameFormula(f, want) || e != api.OK {
		t.Fatalf("%s, %s: %s, %v, want %s", brief(a), brief(b), brief(f), e, brief(want))
	}
}

// forces holds Force of a formula against the literals that are wanted.
func forces(t *testing.T, f api.Cnf, given []int, want ...int) {
	t.Helper()
	if l, ok, e := cnf.Force(f, given); !slices.Equal(l, want) || !ok || e != api.OK {
		t.Fatalf("%s by %s: %s, want %s", brief(f), brief(given), brief(l, ok, e), brief(want))
	}
}

// cannot holds Force of a formula by some literals that can't be.
func cannot(t *testing.T, f api.Cnf, given ...int) {
	t.Helper()
	if l, ok, e := cnf.Force(f, given); len(l) > 0 || ok || e != api.OK {
		t.Fatalf("%s by %s: %s", brief(f), brief(given), brief(l, ok, e))
	}
}

// hasModels holds Models and Least of a formula of a few variables against how many models it has and the first one, told as a text of 0 and 1.
func hasModels(t *testing.T, f api.Cnf, count int, least string) {
	t.Helper()
	if n, e := cnf.Models(f); n != count || e != api.OK {
		t.Fatalf("%s: %d, %v, want %d", brief(f), n, e, count)
	}
	m, e := cnf.Least(f)
	if count == 0 {
		if len(m) > 0 || e != api.ErrNone {
			t.Fatalf("%s: %v, %v", brief(f), m, e)
		}
		return
	}
	if !slices.Equal(m, samples.Bits(least)) || e != api.OK {
		t.Fatalf("%s: %v, %v, want %s", brief(f), m, e, least)
	}
}

// digits is a long number.
func digits(n int) string { return strings.Repeat("9", n) }
