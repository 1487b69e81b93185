package encode_test

import (
	"math/rand"
	"slices"
	"testing"

	"trestle/api"
	"trestle/samples"
)

// 15.1: the chapter's example, clause by clause.
func TestGatesByExample(t *testing.T) {
	says(t, example(), api.Cnf{Vars: 4, Clauses: []api.Clause{{-1}, {-4, 2}, {-4, 3}, {4, -2, -3}}})
}

// 15.1: circuits of no variable and of no gate have the clause of what is false alone, whatever else they have.
func TestFormulasWithoutGates(t *testing.T) {
	only := func(vars int) api.Cnf { return api.Cnf{Vars: vars, Clauses: []api.Clause{{-1}}} }
	says(t, api.Circuit{}, only(1))
	says(t, api.Circuit{Bads: []int{0, 1}, Constraints: []int{0}, Justice: [][]int{{1}}}, only(1))
	says(t, api.Circuit{Max: 1}, only(2))
	says(t, api.Circuit{Max: 7}, only(8))
	says(t, api.Circuit{Max: api.MaxVar}, only(api.MaxVar+1))
	says(t, api.Circuit{Max: 5, Inputs: []int{8, 2}, Latches: []api.Latch{{Lit: 4, Next: 9, Reset: 1}, {Lit: 10, Next: 5, Reset: 10}}, Bads: []int{10}, Constraints: []int{9, 1}}, only(6))
}

// 15.1: variables that nothing defines are counted, and have no clauses.
func TestFormulasOfLooseVariables(t *testing.T) {
	says(t, api.Circuit{Max: 9, Inputs: []int{16}, Ands: []api.And{{Out: 6, Left: 17, Right: 16}}}, formula(10, gate{4, -9, 9}))
	says(t, api.Circuit{Max: api.MaxVar, Ands: []api.And{{Out: 2, Left: 1, Right: 1}}}, formula(api.MaxVar+1, gate{2, -1, -1}))
}

// 15.1: literals stand as they are, also if they are the same, contrary or constant: no clause is left out, and none is made shorter.
func TestTrivialGates(t *testing.T) {
	for left := range 4 {
		for right := range 4 {
			c := api.Circuit{Max: 2, Inputs: []int{2}, Ands: []api.And{{Out: 4, Left: left, Right: right}}}
			l, r := []int{1, -1, 2, -2}[left], []int{1, -1, 2, -2}[right]
			says(t, c, api.Cnf{Vars: 3, Clauses: []api.Clause{{-1}, {-3, l}, {-3, r}, {3, -l, -r}}})
		}
	}
	says(t, api.Circuit{Max: 1, Ands: []api.And{{Out: 2, Left: 0, Right: 0}}}, api.Cnf{Vars: 2, Clauses: []api.Clause{{-1}, {-2, 1}, {-2, 1}, {2, -1, -1}}})
}

// 15.1: clauses stand in the order of Ands, also where gates stand ahead of those that they use; like gates each have their own.
func TestOrderOfGates(t *testing.T) {
	says(t, stepping(), formula(9, gate{9, -7, 6}, gate{8, 4, 5}, gate{7, -6, 2}, gate{6, 2, -3}))
	says(t, samples.Right(), formula(13, gate{11, 12, -10}, gate{10, -2, 4}, gate{12, 10, 10}, gate{13, 1, 11}))
	c := api.Circuit{Max: 4, Inputs: []int{2}, Ands: []api.And{{Out: 8, Left: 2, Right: 3}, {Out: 4, Left: 2, Right: 3}, {Out: 6, Left: 3, Right: 2}}}
	says(t, c, formula(5, gate{5, 2, -2}, gate{3, 2, -2}, gate{4, -2, 2}))
	// The formula of gates in another order has the same clauses in that order.
	r := rand.New(rand.NewSource(162))
	for range 500 {
		c := samples.Circuit(r.Intn)
		f := formulaOf(c, allOf(c))
		at := r.Perm(len(c.Ands))
		other := samples.Clone(c)
		want := api.Cnf{Vars: f.Vars, Clauses: f.Clauses[:1:1]}
		for i, k := range at {
			other.Ands[i] = c.Ands[k]
			want.Clauses = append(want.Clauses, f.Clauses[1+3*k:4+3*k]...)
		}
		says(t, other, want)
	}
}

// 15.1: all circuits of two gates over an input and a latch, in both orders.
func TestTwoGates(t *testing.T) {
	for _, c := range samples.TwoGates() {
		for range 2 {
			asWords(t, some("Gates"), c, given{})
			slices.Reverse(c.Ands)
		}
	}
}

// 15.1: circuits by chance.
func TestGatesByChance(t *testing.T) {
	r := rand.New(rand.NewSource(163))
	for range 3000 {
		asWords(t, some("Gates"), samples.Circuit(r.Intn), given{})
	}
}

// 15.1: what is neither a gate nor Max changes nothing: latches' next literals and resets, outputs, properties, constraints, symbols, comments, and which variables are inputs or latches.
func TestWhatIsNotNamed(t *testing.T) {
	r := rand.New(rand.NewSource(164))
	for range 500 {
		c := samples.Circuit(r.Intn)
		bare := api.Circuit{Max: c.Max, Inputs: slices.Clone(c.Inputs), Ands: c.Ands}
		for _, l := range c.Latches {
			bare.Inputs = append(bare.Inputs, l.Lit)
		}
		lits := samples.SomeLiterals(c, r.Intn)
		for _, x := range some("Gates", "Cone") {
			if was, is := x.of(c, given{lits: lits}), x.of(bare, given{lits: lits}); !was.same(is) || was.e != api.OK {
				t.Fatalf("%s of %v of %+v: %+v, of %+v: %+v", x.name, lits, c, was, bare, is)
			}
		}
	}
}

// chain is a circuit of an input and gates up to the greatest variable, each of which uses the one behind it in the list.
func chain() api.Circuit {
	c := api.Circuit{Max: api.MaxVar, Inputs: []int{2}}
	for v := api.MaxVar; v > 1; v-- {
		c.Ands = append(c.Ands, api.And{Out: 2 * v, Left: 2*v - 1, Right: 2*v - 2})
	}
	return c
}

// links is the gates of the formula of such a chain, from the variable last down to the variable first.
func links(last, first int) []gate {
	var all []gate
	for v := last; v >= first; v-- {
		all = append(all, gate{v + 1, -v, v})
	}
	return all
}

// 15.1: as many gates as there may be: of constants alone, and each one using the one behind it, or ahead of it.
func TestMostGates(t *testing.T) {
	c := api.Circuit{Max: api.MaxVar}
	var gates []gate
	for v := 1; v <= api.MaxItems; v++ {
		c.Ands = append(c.Ands, api.And{Out: 2 * v, Left: 1, Right: v % 2})
		gates = append(gates, gate{v + 1, -1, 1 - 2*(v%2)})
	}
	want := formula(api.MaxVar+1, gates...)
	if n := len(want.Clauses); n != 1+3*api.MaxItems {
		t.Fatalf("%d clauses", n)
	}
	says(t, c, want)
	c, gates = chain(), links(api.MaxVar, 2)
	says(t, c, formula(api.MaxVar+1, gates...))
	slices.Reverse(c.Ands)
	slices.Reverse(gates)
	says(t, c, formula(api.MaxVar+1, gates...))
}
