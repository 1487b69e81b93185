package cnf_test

import (
	"math/rand"
	"slices"
	"testing"

	"trestle/api"
	"trestle/cnf"
	"trestle/samples"
)

// 14.6: what is printed of a formula is read as it, and as the same by Same.
func TestPrintedIsRead(t *testing.T) {
	r := rand.New(rand.NewSource(151))
	for range 20000 {
		f := samples.Formula([...]int{0, 1, 2, 9, 10, 11, 99, 12345, api.MaxCnf}[r.Intn(9)], r.Intn(20), r.Intn)
		s, e := cnf.Print(f)
		if e != api.OK {
			t.Fatalf("%+v: %v", f, e)
		}
		g, fault := cnf.Parse(s)
		if !cnf.Same(f, g) || fault != (api.Fault{}) {
			t.Fatalf("%+v: %q, %+v, %v", f, s, g, fault)
		}
		// However it is laid out, it is the same.
		if g, fault := cnf.Parse(loosely(f, r.Intn)); !cnf.Same(f, g) || fault != (api.Fault{}) {
			t.Fatalf("%+v: %+v, %v", f, g, fault)
		}
	}
}

// 14.6: what is read may be, and its text is read as it.
func TestReadIsRight(t *testing.T) {
	r := rand.New(rand.NewSource(152))
	n := 0
	for range 40000 {
		s := loosely(samples.Formula(r.Intn(12), r.Intn(6), r.Intn), r.Intn)
		for range r.Intn(3) {
			s = samples.Changed(s, "0123-+ \n\tcpx9", r.Intn)
		}
		if f, fault := cnf.Parse(s); fault.Code == api.OK {
			right(t, f, printOf(f))
			n++
		}
	}
	if n < 10000 {
		t.Errorf("%d are read", n)
	}
}

// holds tells whether a formula is true by a model, of which it may have less variables.
func holds(t *testing.T, f api.Cnf, model []bool) bool {
	t.Helper()
	is, _, e := cnf.Holds(f, model[:f.Vars])
	if e != api.OK {
		t.Fatalf("%+v by %v: %v", f, model, e)
	}
	return is
}

// 14.6: a model of Join is one of both formulas, and the other way round.
func TestModelsOfJoin(t *testing.T) {
	r := rand.New(rand.NewSource(153))
	both, one := 0, 0
	for range 3000 {
		a, b := samples.Formula(r.Intn(6), r.Intn(6), r.Intn), samples.Formula(r.Intn(6), r.Intn(6), r.Intn)
		f, e := cnf.Join(a, b)
		if e != api.OK {
			t.Fatalf("%+v, %+v: %v", a, b, e)
		}
		for _, m := range samples.AllLists(f.Vars, false, true) {
			isA, isB := holds(t, a, m), holds(t, b, m)
			if holds(t, f, m) != (isA && isB) {
				t.Fatalf("%+v, %+v by %v: %v, %v", a, b, m, isA, isB)
			}
			if isA && isB {
				both++
			} else if isA || isB {
				one++
			}
		}
	}
	if min(both, one) < 1000 {
		t.Errorf("%d are models of both, %d of one of them", both, one)
	}
}

// with is the models of a formula in which all of some literals are true.
func with(f api.Cnf, given []int) [][]bool {
	for _, x := range given {
		f.Clauses = append(slices.Clone(f.Clauses), api.Clause{x})
	}
	return samples.Models(f)
}

// 14.6: what Force tells is true in each model in which the literals are; where it answers false, there is none; forced again with what it told, it tells the same.
func TestWhatIsForcedIsTrue(t *testing.T) {
	r := rand.New(rand.NewSource(154))
	more, can, none := 0, 0, 0
	for range 10000 {
		vars := 1 + r.Intn(6)
		f := samples.Formula(vars, r.Intn(12), r.Intn)
		given := samples.Formula(vars, 1, r.Intn).Clauses[0]
		l, ok, e := cnf.Force(f, given)
		if e != api.OK {
			t.Fatalf("%+v by %v: %v", f, given, e)
		}
		models := with(f, given)
		if !ok {
			none++
			if len(models) > 0 {
				t.Fatalf("%+v by %v can't be, and has %v", f, given, models)
			}
			continue
		}
		can++
		for _, m := range models {
			for _, x := range l {
				if !samples.IsTrue(api.Clause{x}, m) {
					t.Fatalf("%+v by %v: %v, but %v", f, given, l, m)
				}
			}
		}
		for _, x := range given {
			if !slices.Contains(l, x) {
				t.Fatalf("%+v by %v: %v", f, given, l)
			}
		}
		if len(l) > len(given) {
			more++
		}
		forces(t, f, l, l...)
		forces(t, f, append(slices.Clone(l), given...), l...)
	}
	if min(more, can, none) < 1000 {
		t.Errorf("%d can be, of %d more is forced, %d can't be", can, more, none)
	}
}

// 14.6: where Force answers true and tells all variables, that is a model; as many truths as Force is given more, as many more it tells.
func TestForceOfWholeModels(t *testing.T) {
	r := rand.New(rand.NewSource(155))
	seen := map[bool]int{}
	for range 3000 {
		f := samples.Formula(1+r.Intn(6), r.Intn(12), r.Intn)
		model := samples.Truths(f.Vars, r.Intn)
		var all []int
		for _, x := range against(model) {
			all = append(all, -x)
		}
		is := holds(t, f, model)
		if is {
			forces(t, f, all, all...)
		} else {
			cannot(t, f, all...)
		}
		seen[is]++
	}
	if min(seen[true], seen[false]) < 500 {
		t.Errorf("%v", seen)
	}
}

// 14.6: Least holds, and there is one just if Models is above 0; with a clause against it the next one is the least, until none is left.
func TestLeastHolds(t *testing.T) {
	r := rand.New(rand.NewSource(156))
	for range 1000 {
		f := samples.Formula(r.Intn(6), r.Intn(12), r.Intn)
		n, e := cnf.Models(f)
		if e != api.OK {
			t.Fatalf("%+v: %v", f, e)
		}
		for ; n > 0; n-- {
			m, e := cnf.Least(f)
			if e != api.OK || !holds(t, f, m) {
				t.Fatalf("%+v: %v, %v", f, m, e)
			}
			f.Clauses = append(f.Clauses, against(m))
			hasLess(t, f, n-1, m)
		}
		if m, e := cnf.Least(f); len(m) > 0 || e != api.ErrNone {
			t.Fatalf("%+v: %v, %v", f, m, e)
		}
	}
}

// hasLess holds Models against what is wanted, and Least against a model that must come ahead of it.
func hasLess(t *testing.T, f api.Cnf, n int, ahead []bool) {
	t.Helper()
	if k, e := cnf.Models(f); k != n || e != api.OK {
		t.Fatalf("%+v: %d, %v, want %d", f, k, e, n)
	}
	if m, e := cnf.Least(f); e == api.OK && textOf(m) <= textOf(ahead) {
		t.Fatalf("%+v: %v comes behind %v", f, m, ahead)
	}
}
