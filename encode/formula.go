package encode

import (
	"slices"

	"trestle/api"
)

// varsOf is how many variables a circuit's formula has.
func varsOf(c api.Circuit) int { return c.Max + 1 }

// literal is the formula's literal of a circuit's literal.
func literal(l int) int {
	v := l/2 + 1
	if l%2 == 1 {
		return -v
	}
	return v
}

// formulaOf is the formula of a circuit with the clauses of these gates alone.
func formulaOf(c api.Circuit, gates []api.And) api.Cnf {
	// Three clauses a gate, behind the one of what is false.
	f := formula{Vars: varsOf(c), Clauses: make([]api.Clause, 0, 1+3*len(gates))}
	f.put(-literal(0))
	for _, g := range gates {
		out, left, right := literal(g.Out), literal(g.Left), literal(g.Right)
		f.put(-out, left)
		f.put(-out, right)
		f.put(out, -left, -right)
	}
	return api.Cnf(f)
}

// formula is a formula that is put together clause by clause.
type formula api.Cnf

// put puts a clause of these literals behind the others. It keeps a copy, so that no two clauses ever share memory.
func (f *formula) put(literals ...int) {
	f.Clauses = append(f.Clauses, slices.Clone(literals))
}
