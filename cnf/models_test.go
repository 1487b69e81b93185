package cnf_test

import (
	"math/rand"
	"slices"
	"testing"

	"trestle/api"
	"trestle/cnf"
	"trestle/samples"
)

// 14.3: the chapter's examples, and formulas of which all models, none and just one are.
func TestModelsByExample(t *testing.T) {
	hasModels(t, two(), 1, "11")
	hasModels(t, of(3, api.Clause{1, 2}, api.Clause{-1, 3}), 4, "010")
	hasModels(t, api.Cnf{}, 1, "")
	hasModels(t, of(0, nil), 0, "")
	hasModels(t, of(2, api.Clause{1}, nil), 0, "")
	hasModels(t, of(2, api.Clause{1, 2}, api.Clause{-1}, api.Clause{-2}), 0, "")
	hasModels(t, of(3, api.Clause{3, -3}, api.Clause{-1, 2, 1}), 8, "000")
	hasModels(t, of(2, api.Clause{1, 1}, api.Clause{-2, -2, -2}), 1, "10")
}

// 14.3: all small formulas: Models, Least, and Holds by all models, against all models tried one by one.
func TestModelsOfSmallOnes(t *testing.T) {
	seen := map[int]int{}
	for n := range 4 {
		for _, list := range samples.AllLists(n, samples.Clauses(2, 2)...) {
			seen[triedAsWords(t, of(2, list...))]++
		}
	}
	for n := range 3 {
		for _, list := range samples.AllLists(n, samples.Clauses(3, 2)...) {
			seen[triedAsWords(t, of(3, list...))]++
		}
	}
	for _, c := range samples.Clauses(3, 4) {
		seen[triedAsWords(t, of(3, c))]++
		seen[triedAsWords(t, of(5, c, api.Clause{5, -4}))]++
	}
	for n := range 9 {
		if seen[n] == 0 {
			t.Errorf("%d models came not once", n)
		}
	}
}

// 14.3: formulas by chance of each number of variables up to MaxTrial.
func TestModelsByChance(t *testing.T) {
	r := rand.New(rand.NewSource(145))
	some, none := 0, 0
	for vars := range 11 {
		for range 200 {
			if triedAsWords(t, samples.Formula(vars, r.Intn(3*vars+2), r.Intn)) > 0 {
				some++
			} else {
				none++
			}
		}
	}
	for vars := 11; vars <= api.MaxTrial; vars++ {
		triedAsWords(t, samples.Formula(vars, 2*vars, r.Intn))
		triedAsWords(t, samples.Formula(vars, 5*vars, r.Intn))
	}
	if min(some, none) < 500 {
		t.Errorf("%d have models, %d have none", some, none)
	}
}

// 14.3: of each number of variables up to MaxTrial: no clause, each literal alone, each variable true and all others false.
func TestModelsOfEachVariable(t *testing.T) {
	for vars := range api.MaxTrial + 1 {
		least := make([]byte, vars)
		for i := range least {
			least[i] = '0'
		}
		hasModels(t, of(vars), 1<<vars, string(least))
		hasModels(t, of(vars, nil), 0, "")
		var all []api.Clause
		for v := 1; v <= vars; v++ {
			all = append(all, api.Clause{-v})
			hasModels(t, of(vars, api.Clause{-v}), 1<<(vars-1), string(least))
			least[v-1] = '1'
			hasModels(t, of(vars, api.Clause{v}), 1<<(vars-1), string(least))
			hasModels(t, of(vars, api.Clause{v, v}, api.Clause{-v, v}), 1<<(vars-1), string(least))
			hasModels(t, of(vars, api.Clause{v}, api.Clause{-v}), 0, "")
			least[v-1] = '0'
		}
		for v := 1; v <= vars; v++ {
			least[v-1] = '1'
			all[v-1] = api.Clause{v}
			hasModels(t, of(vars, all...), 1, string(least))
			least[v-1] = '0'
			all[v-1] = api.Clause{-v}
		}
	}
}

// against is the clause that is false by a model alone.
func against(model []bool) api.Clause {
	c := make(api.Clause, len(model))
	for i, is := range model {
		c[i] = i + 1
		if is {
			c[i] = -c[i]
		}
	}
	return c
}

// textOf is a model as a text of 0 and 1.
func textOf(model []bool) string {
	out := make([]byte, len(model))
	for i, is := range model {
		out[i] = '0'
		if is {
			out[i] = '1'
		}
	}
	return string(out)
}

// 14.3: formulas of which one model alone is, or all but one are: the first one, the last one, and some between, of each number of variables.
func TestModelsWithOneAndWithAllButOne(t *testing.T) {
	for vars := 1; vars <= api.MaxTrial; vars++ {
		all := samples.AllLists(vars, false, true)
		var clauses []api.Clause
		for _, m := range all {
			clauses = append(clauses, against(m))
		}
		hasModels(t, of(vars, clauses...), 0, "")
		last := len(all) - 1
		for _, at := range []int{0, 1, last / 3, last / 2, last - 1, last} {
			others := append(slices.Clone(clauses[:at]), clauses[at+1:]...)
			hasModels(t, of(vars, others...), 1, textOf(all[at]))
			hasModels(t, of(vars, clauses[:at]...), len(all)-at, textOf(all[at]))
			first := 0
			if at == 0 {
				first = 1
			}
			hasModels(t, of(vars, clauses[at]), last, textOf(all[first]))
			holdsBut(t, of(vars, clauses...), all[at], at)
			holdsBut(t, of(vars, others...), all[at], -1)
		}
	}
}

// holdsBut holds Holds against the first clause that is false, -1 if none is.
func holdsBut(t *testing.T, f api.Cnf, model []bool, at int) {
	t.Helper()
	if ok, i, e := cnf.Holds(f, model); ok != (at < 0) || i != max(at, 0) || e != api.OK {
		t.Fatalf("%s by %s: %v, %d, %v, want %d", brief(f), brief(model), ok, i, e, at)
	}
}

// 14.3: as many clauses and literals as may be: each model is tried, and it ends soon.
func TestModelsOfGreatOnes(t *testing.T) {
	hasModels(t, of(16, many(api.MaxClauses, 1)...), 1<<15, "1000000000000000")
	hasModels(t, of(16, many(api.MaxClauses, -16, 16)...), 1<<16, "0000000000000000")
	hasModels(t, of(16, append(many(api.MaxClauses-1, 1, 2, 3, 4), api.Clause{-1})...), 1<<15-1<<12, "0001000000000000")
	long := append(slices.Repeat(api.Clause{16, -9}, api.MaxItems/2-1), 3, 3)
	hasModels(t, of(16, many(100, long...)...), 1<<16-1<<13, "0000000000000000")
	hasModels(t, of(0, many(api.MaxClauses)...), 0, "")
}

// 14.3: more variables than are tried: ErrSize, whatever the clauses are; Holds and Force do not mind.
func TestModelsOfTooManyVariables(t *testing.T) {
	for _, vars := range []int{api.MaxTrial + 1, api.MaxTrial + 2, 64, 65, 1000, api.MaxCnf} {
		for _, clauses := range [][]api.Clause{nil, {nil}, {{1}}, {{1}, {-1}}, {{vars, -1}}} {
			f := of(vars, clauses...)
			if n, e := cnf.Models(f); n != 0 || e != api.ErrSize {
				t.Fatalf("%+v: %d, %v", f, n, e)
			}
			if m, e := cnf.Least(f); len(m) > 0 || e != api.ErrSize {
				t.Fatalf("%+v: %v, %v", f, m, e)
			}
		}
		refuses(t, vars, of(vars, nil, api.Clause{0}), 1, api.ErrVar)
		refuses(t, vars, of(vars, nil, zeros(api.MaxItems+1)), 1, api.ErrLong)
	}
}

// 14.3: models that have not just as many truths as there are variables, ahead of what they say.
func TestHoldsByModelsThatDoNotFit(t *testing.T) {
	for _, vars := range []int{0, 1, 2, api.MaxTrial, api.MaxTrial + 1, api.MaxCnf} {
		for _, clauses := range [][]api.Clause{nil, {nil}, {{1, -1}}, {{1}}, {{-vars}, nil}} {
			if vars == 0 && len(clauses) > 0 && len(clauses[0]) > 0 {
				continue
			}
			f := of(vars, clauses...)
			for _, n := range []int{0, vars - 1, vars + 1, vars + 2, 2*vars + 1, api.MaxCnf + 1, api.MaxCnf} {
				if n == vars || n < 0 {
					continue
				}
				m := slices.Repeat([]bool{true}, n)
				if ok, at, e := cnf.Holds(f, m); ok || at != 0 || e != api.ErrShape {
					t.Fatalf("%+v by %d truths: %v, %d, %v", f, n, ok, at, e)
				}
			}
		}
	}
}

// 14.3: as many variables, clauses and literals as may be; the first clause that is false is told, of several.
func TestHoldsOfGreatOnes(t *testing.T) {
	r := rand.New(rand.NewSource(146))
	model := samples.Truths(api.MaxCnf, r.Intn)
	f := of(api.MaxCnf)
	for i := range api.MaxClauses {
		v := 1 + i%api.MaxCnf
		if !model[v-1] {
			v = -v
		}
		f.Clauses = append(f.Clauses, api.Clause{-v, v})
	}
	holdsBut(t, f, model, -1)
	for _, at := range []int{api.MaxClauses - 1, api.MaxClauses / 2, 1, 0} {
		f.Clauses[at] = f.Clauses[at][:1]
		holdsBut(t, f, model, at)
	}
	long := slices.Repeat(api.Clause{-1, 2}, api.MaxItems/2)
	holdsBut(t, of(3, api.Clause{3, 1}, long), samples.Bits("101"), 1)
	long[api.MaxItems-1] = 3
	holdsBut(t, of(3, api.Clause{3, 1}, long), samples.Bits("101"), -1)
	holdsBut(t, of(3, many(9)...), samples.Bits("111"), 0)
}
