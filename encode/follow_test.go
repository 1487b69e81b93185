package encode_test

import (
	"math/rand"
	"slices"
	"testing"

	"trestle/api"
	"trestle/cnf"
	"trestle/encode"
	"trestle/samples"
	"trestle/shape"
)

// gatesBy is the formula of a circuit.
func gatesBy(t *testing.T, c api.Circuit) api.Cnf {
	t.Helper()
	f, e := encode.Gates(c)
	if e != api.OK {
		t.Fatalf("%s: %v", brief(c), e)
	}
	return f
}

// coneBy is the formula of a cone.
func coneBy(t *testing.T, c api.Circuit, lits []int) api.Cnf {
	t.Helper()
	f, e := encode.Cone(c, lits)
	if e != api.OK {
		t.Fatalf("%s: %v", brief(lits, c), e)
	}
	return f
}

// defined tells of each variable whether it is 0, or something defines it.
func defined(c api.Circuit) []bool {
	is := make([]bool, c.Max+1)
	is[0] = true
	for _, l := range c.Inputs {
		is[l/2] = true
	}
	for _, l := range c.Latches {
		is[l.Lit/2] = true
	}
	for _, g := range c.Ands {
		is[g.Out/2] = true
	}
	return is
}

// power is how many lists of n truths there are.
func power(n int) int { return 1 << n }

// looseOf is the numbers of the variables that nothing defines.
func looseOf(c api.Circuit) []int {
	var out []int
	for v, is := range defined(c) {
		if !is {
			out = append(out, v)
		}
	}
	return out
}

// sayAll holds all models of a circuit's formula, tried one by one, against Model of their own Step; each state and row has as many of them as the variables that nothing defines have values.
func sayAll(t *testing.T, c api.Circuit) {
	t.Helper()
	f := gatesBy(t, c)
	loose := looseOf(c)
	models := samples.Models(f)
	for _, m := range models {
		state, row := stepBy(t, c, m)
		own := modelBy(t, c, state, row)
		for _, v := range loose {
			own[v] = m[v]
		}
		if !slices.Equal(m, own) {
			t.Fatalf("%+v: the model %v, of its own step %v", c, m, own)
		}
	}
	if want := power(len(c.Inputs) + len(c.Latches) + len(loose)); len(models) != want {
		t.Fatalf("%+v: %d models, want %d", c, len(models), want)
	}
}

// 15.3: Model makes the formula true, whatever the variables are that nothing defines; with the truth of a gate turned, or of what is false, it does not.
func TestModelsHold(t *testing.T) {
	r := rand.New(rand.NewSource(171))
	for range 1000 {
		c := samples.Circuit(r.Intn)
		f, loose := gatesBy(t, c), looseOf(c)
		inAllSteps(c, func(state, row []bool) {
			m := modelBy(t, c, state, row)
			for _, v := range loose {
				m[v] = r.Intn(2) == 1
			}
			if is, at, e := cnf.Holds(f, m); !is || e != api.OK {
				t.Fatalf("%+v, %v by %v: the clause %d is false by %v, %v", c, state, row, at, m, e)
			}
			outs := []int{0}
			for _, g := range c.Ands {
				outs = append(outs, g.Out/2)
			}
			v := outs[r.Intn(len(outs))]
			m[v] = !m[v]
			if is, _, _ := cnf.Holds(f, m); is {
				t.Fatalf("%+v, %v by %v: true by %v, too, with %d turned", c, state, row, m, v)
			}
		})
	}
}

// few is a circuit by chance of which all models can be tried.
func few(most int, r *rand.Rand) api.Circuit {
	for {
		if c := samples.Circuit(r.Intn); c.Max <= most {
			return c
		}
	}
}

// 15.3: each model of the formula is Model of its own Step, but for variables that nothing defines: the chapter's example, all circuits of two gates, and small ones by chance.
func TestModelsAreSteps(t *testing.T) {
	for _, c := range []api.Circuit{{}, {Max: 1}, {Max: 3}, example(), stepping(), {Max: 3, Inputs: []int{6}}, {Max: 4, Latches: []api.Latch{{Lit: 4, Next: 5}}, Ands: []api.And{{Out: 8, Left: 5, Right: 0}}}} {
		sayAll(t, c)
	}
	for _, c := range samples.TwoGates() {
		sayAll(t, c)
	}
	r := rand.New(rand.NewSource(172))
	for range 1000 {
		sayAll(t, few(8, r))
	}
}

// 15.3: of circuits of up to 15 variables the formula has as many models as there are states, rows, and values of variables that nothing defines.
func TestModelsOfMore(t *testing.T) {
	r := rand.New(rand.NewSource(173))
	for range 500 {
		c := few(api.MaxTrial-1, r)
		want := power(len(c.Inputs) + len(c.Latches) + len(looseOf(c)))
		if n, e := cnf.Models(gatesBy(t, c)); n != want || e != api.OK {
			t.Fatalf("%+v: %d models, %v, want %d", c, n, e, want)
		}
	}
}

// 15.3: the state and the row say all: by their literals alone there follows of the formula the truth of each variable that something defines, one literal by one, and of no other one.
func TestStateAndRowSayAll(t *testing.T) {
	r := rand.New(rand.NewSource(174))
	follows := func(c api.Circuit) {
		f := gatesBy(t, c)
		state, row := samples.Truths(len(c.Latches), r.Intn), samples.Truths(len(c.Inputs), r.Intn)
		m := modelBy(t, c, state, row)
		var given, want []int
		for v, is := range defined(c) {
			if is {
				want = append(want, to(signed(2*v, m[v])))
			}
		}
		for i, l := range c.Inputs {
			given = append(given, to(signed(l, row[i])))
		}
		for i, l := range c.Latches {
			given = append(given, to(signed(l.Lit, state[i])))
		}
		if got, ok, e := cnf.Force(f, given); !slices.Equal(got, want) || !ok || e != api.OK {
			t.Fatalf("%s by %s: %s, want %s", brief(c), brief(given), brief(got, ok, e), brief(want))
		}
	}
	for range 2000 {
		follows(samples.Circuit(r.Intn))
	}
	follows(chain())
}

// signed is a literal as it is, or negated.
func signed(l int, is bool) int {
	if is {
		return l
	}
	return l ^ 1
}

// isTrue is the value of a formula's literal by a model.
func isTrue(model []bool, x int) bool { return samples.IsTrue(api.Clause{x}, model) }

// sayCone holds all models of a cone, tried one by one, against the circuit: the literals, and all on which they hang within one step, have the values that they have in the circuit by the model's state and row, but for variables that nothing defines; all variables but the cone's gates and the one that is false may have any values.
func sayCone(t *testing.T, c api.Circuit, lits []int) {
	t.Helper()
	is, on := defined(c), hungOn(c, lits)
	models := samples.Models(coneBy(t, c, lits))
	for _, m := range models {
		state, row := stepBy(t, c, m)
		s, _ := samples.StepOf(c, state, row)
		for _, l := range lits {
			if is[l/2] && isTrue(m, to(l)) != samples.Value(s.Values, l) {
				t.Fatalf("%+v: %v by %v: the literal %d", c, lits, m, l)
			}
		}
		for v := range on {
			if on[v] && is[v] && isTrue(m, to(2*v)) != s.Values[v] {
				t.Fatalf("%+v: %v by %v: the variable %d", c, lits, m, v)
			}
		}
	}
	free := c.Max
	for _, g := range c.Ands {
		if on[g.Out/2] {
			free--
		}
	}
	if len(models) != power(free) {
		t.Fatalf("%+v: %v: %d models, want %d", c, lits, len(models), power(free))
	}
}

// 15.4: all cones of all circuits of two gates, and cones of small circuits by chance: each literal's, and those of some together.
func TestConesSayLiterals(t *testing.T) {
	for _, c := range samples.TwoGates() {
		for _, lits := range [][]int{nil, {4, 2}, {6}, {7, 5}, {8}, {9, 6}} {
			sayCone(t, c, lits)
		}
	}
	// All lists that have of each gate its literal or nothing, and a latch.
	for _, which := range samples.AllLists(4, 0, 1) {
		sayCone(t, stepping(), []int{10 * which[0], 12 * which[1], 14*which[2] + 1, 16 * which[3], 6})
	}
	for _, l := range samples.AllLiterals(stepping()) {
		sayCone(t, stepping(), []int{l})
	}
	r := rand.New(rand.NewSource(175))
	for range 300 {
		c := few(8, r)
		for _, l := range samples.AllLiterals(c) {
			sayCone(t, c, []int{l})
		}
		for range 5 {
			sayCone(t, c, samples.SomeLiterals(c, r.Intn))
		}
	}
}

// 15.4: where a literal is to be true, the formula of its cone has a model just where the circuit has a state and a row in which it is; so it is with more of them.
func TestLiteralsThatCanBe(t *testing.T) {
	r := rand.New(rand.NewSource(176))
	can, never := 0, 0
	for range 1500 {
		c := few(api.MaxTrial-1, r)
		// Of variables that nothing defines a formula leaves open what they are.
		lits := slices.DeleteFunc(samples.SomeLiterals(c, r.Intn), func(l int) bool { return !defined(c)[l/2] })
		f := coneBy(t, c, lits)
		for _, l := range lits {
			f.Clauses = append(f.Clauses, api.Clause{to(l)})
		}
		want := false
		inAllSteps(c, func(state, row []bool) {
			s, _ := samples.StepOf(c, state, row)
			want = want || !slices.ContainsFunc(lits, func(l int) bool { return !samples.Value(s.Values, l) })
		})
		m, e := cnf.Least(f)
		if (e == api.OK) != want || e != api.OK && e != api.ErrNone {
			t.Fatalf("%+v: %v: %v, %v, want %v", c, lits, m, e, want)
		}
		if !want {
			never++
			continue
		}
		can++
		state, row := stepBy(t, c, m)
		s, _ := samples.StepOf(c, state, row)
		if slices.ContainsFunc(lits, func(l int) bool { return !samples.Value(s.Values, l) }) {
			t.Fatalf("%+v: %v are not all true in %v by %v", c, lits, state, row)
		}
	}
	if min(can, never) < 300 {
		t.Errorf("%d can be, %d can't", can, never)
	}
}

// 15.4: a cone has the clauses of the whole that speak of it: those of several literals together have each one's, and no others, in the order of the whole.
func TestConesTogether(t *testing.T) {
	r := rand.New(rand.NewSource(177))
	for range 2000 {
		c := samples.Circuit(r.Intn)
		lits := samples.SomeLiterals(c, r.Intn)
		heads := map[int]struct{}{}
		for _, l := range lits {
			for _, x := range coneBy(t, c, []int{l}).Clauses {
				heads[max(x[0], -x[0])] = struct{}{}
			}
		}
		whole := gatesBy(t, c)
		want := api.Cnf{Vars: whole.Vars, Clauses: whole.Clauses[:1:1]}
		for _, x := range whole.Clauses[1:] {
			if _, is := heads[max(x[0], -x[0])]; is {
				want.Clauses = append(want.Clauses, x)
			}
		}
		saysOf(t, c, lits, want)
	}
}

// 15.3: a circuit that is renumbered has the models of the one that it was, each truth at its new place.
func TestRenumbered(t *testing.T) {
	r := rand.New(rand.NewSource(178))
	for range 2000 {
		c := samples.Circuit(r.Intn)
		n, literals, e := shape.Renumber(c)
		if e != api.OK {
			t.Fatalf("%+v: %v", c, e)
		}
		state, row := samples.Truths(len(c.Latches), r.Intn), samples.Truths(len(c.Inputs), r.Intn)
		m, moved := modelBy(t, c, state, row), make([]bool, n.Max+1)
		for v, l := range literals {
			if l > 0 {
				moved[to(l)-1] = m[to(2*v)-1]
			}
		}
		isModel(t, n, state, row, moved)
		if is, _, e := cnf.Holds(gatesBy(t, n), moved); !is || e != api.OK {
			t.Fatalf("%+v: %v is no model, %v", n, moved, e)
		}
	}
}
