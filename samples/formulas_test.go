package samples_test

import (
	"math/rand"
	"slices"
	"testing"

	"trestle/api"
	"trestle/cnf"
	"trestle/lits"
	"trestle/samples"
)

// All short clauses are there once each, by their lengths, and share no memory.
func TestClauses(t *testing.T) {
	all := samples.Clauses(2, 3)
	if len(all) != 1+4+16+64 || len(all[0]) != 0 {
		t.Errorf("%v", all)
	}
	slices.SortFunc(all, slices.Compare)
	if n := len(slices.CompactFunc(all, slices.Equal)); n != 85 {
		t.Errorf("%d unlike ones", n)
	}
	for _, c := range samples.Clauses(3, 3) {
		if e := cnfCheck(3, c); e != api.OK {
			t.Errorf("%v: %v", c, e)
		}
		samples.Fill(c, 99)
	}
	if none := samples.Clauses(0, 3); len(none) != 1 || len(none[0]) != 0 {
		t.Errorf("%v", none)
	}
}

// cnfCheck is what layer 14's Check refuses of a formula of one clause.
func cnfCheck(vars int, c api.Clause) api.Errno {
	_, e := cnf.Check(api.Cnf{Vars: vars, Clauses: []api.Clause{c}})
	return e
}

// Formulas by chance are right, the same ones by the same picks, of clauses of each length; some have models, and some have none.
func TestFormula(t *testing.T) {
	r, again := rand.New(rand.NewSource(10)), rand.New(rand.NewSource(10))
	seen := map[bool]int{}
	lengths := map[int]int{}
	for i := range 3000 {
		f := samples.Formula(i%6, i%13, r.Intn)
		if at, e := cnf.Check(f); e != api.OK || f.Vars != i%6 || len(f.Clauses) != i%13 {
			t.Fatalf("%+v: %d, %v", f, at, e)
		}
		if g := samples.Formula(i%6, i%13, again.Intn); !samples.SameFormula(f, g) {
			t.Fatalf("%+v, then %+v", f, g)
		}
		for _, c := range f.Clauses {
			lengths[len(c)]++
		}
		seen[len(samples.Models(f)) > 0]++
	}
	if min(seen[true], seen[false]) < 500 || len(lengths) != 6 || min(lengths[1], lengths[2], lengths[3], lengths[4], lengths[5]) < 500 {
		t.Errorf("%v, lengths %v", seen, lengths)
	}
}

// A clause's value is layer 1's; the models of a formula are those by which all its clauses are true, in their order.
func TestModels(t *testing.T) {
	for _, c := range samples.Clauses(3, 3) {
		var models [][]bool
		for _, m := range samples.AllLists(3, false, true) {
			value, e := lits.Value(c, m)
			if e != api.OK || samples.IsTrue(c, m) != value {
				t.Fatalf("%v by %v: %v, %v", c, m, value, e)
			}
			if value {
				models = append(models, m)
			}
		}
		f := api.Cnf{Vars: 3, Clauses: []api.Clause{c, c}}
		if got := samples.Models(f); !slices.EqualFunc(got, models, slices.Equal) {
			t.Fatalf("%v: %v, want %v", c, got, models)
		}
	}
	f := api.Cnf{Vars: 3, Clauses: []api.Clause{{1, 2}, {-1, 3}}}
	want := [][]bool{samples.Bits("010"), samples.Bits("011"), samples.Bits("101"), samples.Bits("111")}
	if got := samples.Models(f); !slices.EqualFunc(got, want, slices.Equal) {
		t.Errorf("%v", got)
	}
}

// A guarded formula has the same members; whatever is written into it, or behind one of its lists, is to be seen in the whole of it, and a spoilt one has no literal left as it was.
func TestGuardedFormula(t *testing.T) {
	f := api.Cnf{Vars: 3, Clauses: []api.Clause{{1, -2}, {}, {3}}}
	g := samples.GuardedFormula(f, 98)
	if !samples.SameFormula(g, f) {
		t.Fatalf("%+v", g)
	}
	was := samples.WholeFormula(g)
	for i, write := range []func(g *api.Cnf){
		func(g *api.Cnf) { g.Vars = 4 }, func(g *api.Cnf) { g.Clauses[0][1] = 2 }, func(g *api.Cnf) { g.Clauses[2] = nil },
		func(g *api.Cnf) { _ = append(g.Clauses[0], 1) }, func(g *api.Cnf) { _ = append(g.Clauses[1], 1) }, func(g *api.Cnf) { _ = append(g.Clauses, api.Clause{1}) },
	} {
		g := samples.GuardedFormula(f, 98)
		write(&g)
		if samples.SameFormula(samples.WholeFormula(g), was) {
			t.Errorf("the write %d is not seen", i)
		}
	}
	first := g.Clauses[0]
	samples.SpoilFormula(g)
	if first[0] == 1 || first[1] == -2 || samples.SameFormula(g, f) || samples.SameFormula(samples.WholeFormula(g), was) {
		t.Errorf("spoilt: %+v, %v", g, first)
	}
	if !samples.SameFormula(f, api.Cnf{Vars: 3, Clauses: []api.Clause{{1, -2}, {}, {3}}}) {
		t.Errorf("changed: %+v", f)
	}
}

// Clauses that share members, or spare room, are not apart; those of a guarded copy are.
func TestApart(t *testing.T) {
	numbers := []int{1, 2, 3, 4}
	for _, shared := range [][]api.Clause{{numbers[:2], numbers[1:]}, {numbers[:2:2], numbers[2:], numbers[3:]}, {numbers[:2], numbers[2:]}, {numbers[:0], numbers[2:]}, {numbers[3:], numbers[:0]}} {
		f := api.Cnf{Vars: 4, Clauses: shared}
		if g := samples.GuardedFormula(f, 98); !samples.Apart(g) {
			t.Errorf("%+v shares nothing", g)
		}
		if samples.Apart(f) {
			t.Errorf("%+v is shared", f)
		}
	}
	for _, f := range []api.Cnf{{}, {Vars: 1, Clauses: []api.Clause{nil, {}, {1}}}, {Vars: 4, Clauses: []api.Clause{numbers[:2:2], numbers[2:]}}} {
		if !samples.Apart(f) {
			t.Errorf("%+v shares nothing", f)
		}
	}
}
