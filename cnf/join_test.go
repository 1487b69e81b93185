package cnf_test

import (
	"math/rand"
	"slices"
	"testing"

	"trestle/api"
	"trestle/cnf"
	"trestle/samples"
)

// 14.5: the greater number of variables, and the clauses of the first one ahead of the second one's, as they are.
func TestJoin(t *testing.T) {
	joins(t, api.Cnf{}, api.Cnf{}, api.Cnf{})
	joins(t, of(3), of(2), of(3))
	joins(t, of(2), of(3), of(3))
	joins(t, two(), api.Cnf{}, two())
	joins(t, api.Cnf{}, two(), two())
	joins(t, two(), of(5, nil, api.Clause{5, 5, -5}), of(5, api.Clause{1, -2}, api.Clause{2}, nil, api.Clause{5, 5, -5}))
	joins(t, of(5, nil, api.Clause{5, 5, -5}), two(), of(5, nil, api.Clause{5, 5, -5}, api.Clause{1, -2}, api.Clause{2}))
	joins(t, two(), two(), of(2, api.Clause{1, -2}, api.Clause{2}, api.Clause{1, -2}, api.Clause{2}))
	joins(t, of(api.MaxCnf, api.Clause{-api.MaxCnf}), of(0, nil), of(api.MaxCnf, api.Clause{-api.MaxCnf}, nil))
	r := rand.New(rand.NewSource(149))
	for range 2000 {
		a, b := samples.Formula(r.Intn(6), r.Intn(6), r.Intn), samples.Formula(r.Intn(6), r.Intn(6), r.Intn)
		joins(t, a, b, of(max(a.Vars, b.Vars), slices.Concat(a.Clauses, b.Clauses)...))
	}
}

// 14.5: as many clauses together as may be, and more; each one alone may have as many.
func TestJoinOfManyClauses(t *testing.T) {
	const most = api.MaxClauses
	for _, n := range []int{0, 1, most / 2, most - 1, most} {
		a, b := of(1, many(n, 1)...), of(2, many(most-n, -2, 2)...)
		joins(t, a, b, of(2, slices.Concat(a.Clauses, b.Clauses)...))
		for _, more := range []int{1, 2, n} {
			if most-n+more <= most && more > 0 {
				unjoined(t, n, a, of(2, many(most-n+more, -2, 2)...), api.ErrLong)
				unjoined(t, n, of(2, many(most-n+more)...), a, api.ErrLong)
			}
		}
	}
	unjoined(t, "both", of(0, many(most)...), of(0, many(most)...), api.ErrLong)
}

// 14.5, R1: what is wrong with the first one, then with the second one, then that there are too many clauses.
func TestJoinOfWrongOnes(t *testing.T) {
	const most = api.MaxClauses
	wrong := []struct {
		f    api.Cnf
		want api.Errno
	}{{of(-1), api.ErrRange}, {of(1, api.Clause{2}), api.ErrVar}, {of(1, nil, zeros(api.MaxItems+1)), api.ErrLong}, {of(0, many(most+1)...), api.ErrLong}, {of(0, append(many(most-1), api.Clause{0})...), api.ErrVar}}
	for _, a := range wrong {
		for _, b := range wrong {
			unjoined(t, "both wrong", a.f, b.f, a.want)
		}
		for _, b := range []api.Cnf{{}, two(), of(2, many(most, 2)...)} {
			unjoined(t, "the first one wrong", a.f, b, a.want)
			unjoined(t, "the second one wrong", b, a.f, a.want)
		}
	}
}

// same holds Same of two formulas, either way round, against what is wanted.
func same(t *testing.T, a, b api.Cnf, want bool) {
	t.Helper()
	if cnf.Same(a, b) != want || cnf.Same(b, a) != want {
		t.Fatalf("%s, %s: want %v", brief(a), brief(b), want)
	}
}

// 14.5: formulas are the same just if Vars and all clauses are, literal by literal; also wrong ones.
func TestSame(t *testing.T) {
	all := []api.Cnf{
		{}, of(1), of(-1), of(api.MaxCnf + 1), of(0, nil), of(1, nil), of(0, nil, nil), of(1, api.Clause{1}), of(1, api.Clause{-1}), of(2, api.Clause{1}), of(2, api.Clause{2}),
		of(2, api.Clause{1, 2}), of(2, api.Clause{2, 1}), of(2, api.Clause{1}, api.Clause{2}), of(2, api.Clause{2}, api.Clause{1}), of(2, api.Clause{1, 1}), of(2, api.Clause{1}, nil), of(2, nil, api.Clause{1}),
		of(2, api.Clause{0}), of(2, api.Clause{3}), of(0, zeros(api.MaxItems+1)), of(0, zeros(api.MaxItems+2)), of(0, many(api.MaxClauses+1)...), of(0, many(api.MaxClauses+2)...),
	}
	for i, a := range all {
		for k, b := range all {
			same(t, a, b, i == k)
		}
	}
	for _, a := range []api.Cnf{{Vars: 3}, {Vars: 3, Clauses: []api.Clause{}}} {
		same(t, a, of(3), true)
	}
	same(t, of(3, nil, api.Clause{1}), of(3, api.Clause{}, api.Clause{1}), true)
}

// 14.5: by chance: a formula is the same as its copy, and as none of which one number is changed.
func TestSameByChance(t *testing.T) {
	r := rand.New(rand.NewSource(150))
	for range 3000 {
		f := samples.Formula(r.Intn(6), r.Intn(6), r.Intn)
		g := samples.GuardedFormula(f, 98)
		same(t, f, g, true)
		g.Vars++
		same(t, f, g, false)
		for i, c := range f.Clauses {
			for k := range c {
				g := samples.GuardedFormula(f, 98)
				g.Clauses[i][k]++
				same(t, f, g, false)
			}
			g := samples.GuardedFormula(f, 98)
			g.Clauses[i] = append(g.Clauses[i], 1)
			same(t, f, g, false)
		}
	}
}
