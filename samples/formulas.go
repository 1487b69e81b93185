package samples

import (
	"slices"

	"trestle/api"
)

// Clauses is all clauses of up to most literals of so many variables; the same literal may stand in them twice, and beside its contrary.
func Clauses(vars, most int) []api.Clause {
	var literals []int
	for v := 1; v <= vars; v++ {
		literals = append(literals, v, -v)
	}
	var all []api.Clause
	for n := range most + 1 {
		for _, l := range AllLists(n, literals...) {
			all = append(all, l)
		}
	}
	return all
}

// Formula is a right formula of so many variables and clauses; these have a few literals each, but some have none, and all if there is no variable.
func Formula(vars, clauses int, pick func(n int) int) api.Cnf {
	f := api.Cnf{Vars: vars}
	for range clauses {
		f.Clauses = append(f.Clauses, clause(vars, pick))
	}
	return f
}

// clause is a few literals of so many variables, or none.
func clause(vars int, pick func(n int) int) api.Clause {
	n := [...]int{1, 2, 2, 2, 3, 3, 3, 4, 5}[pick(9)]
	if vars == 0 || pick(50) == 0 {
		return nil
	}
	c := make(api.Clause, n)
	for i := range c {
		c[i] = (1 + pick(vars)) * (1 - 2*pick(2))
	}
	return c
}

// IsTrue tells whether a model makes a literal of a clause true.
func IsTrue(c api.Clause, model []bool) bool {
	return slices.ContainsFunc(c, func(x int) bool {
		if x < 0 {
			return !model[-x-1]
		}
		return model[x-1]
	})
}

// Models is all models of a right formula of a few variables, tried one by one; false comes ahead of true, and the variable 1 counts most.
func Models(f api.Cnf) [][]bool {
	var all [][]bool
	for _, model := range AllLists(f.Vars, false, true) {
		isFalse := func(c api.Clause) bool { return !IsTrue(c, model) }
		if !slices.ContainsFunc(f.Clauses, isFalse) {
			all = append(all, model)
		}
	}
	return all
}

// SameFormula tells whether two formulas have the same members.
func SameFormula(a, b api.Cnf) bool {
	return a.Vars == b.Vars && slices.EqualFunc(a.Clauses, b.Clauses, slices.Equal)
}

// GuardedFormula is a copy of a formula with something in the spare room of its lists: literals that are by, and clauses of these.
func GuardedFormula(f api.Cnf, by int) api.Cnf {
	g := api.Cnf{Vars: f.Vars, Clauses: roomy(f.Clauses)}
	Fill(g.Clauses, api.Clause{by})
	for i, c := range f.Clauses {
		g.Clauses[i] = GuardedList(c, by)
	}
	return g
}

// WholeFormula is copies of a formula's lists with all that stands in their spare room.
func WholeFormula(f api.Cnf) api.Cnf {
	w := api.Cnf{Vars: f.Vars}
	for _, c := range f.Clauses[:cap(f.Clauses)] {
		w.Clauses = append(w.Clauses, slices.Clone(c[:cap(c)]))
	}
	return w
}

// SpoilFormula writes over all that belongs to a formula's lists, spare room too: what shares memory with it is not the same any more.
func SpoilFormula(f api.Cnf) {
	for _, c := range f.Clauses[:cap(f.Clauses)] {
		Fill(c, spoilt)
	}
	Fill(f.Clauses, api.Clause{spoilt})
}

// Apart tells whether no two clauses of a formula share memory, spare room too. It writes over all of them.
func Apart(f api.Cnf) bool {
	for i, c := range f.Clauses {
		Fill(c, i)
	}
	for i, c := range f.Clauses {
		if slices.ContainsFunc(c[:cap(c)], func(x int) bool { return x != i }) {
			return false
		}
	}
	return true
}
