package frames

import (
	"trestle/api"
	"trestle/encode"
)

// isFalse is the formula's variable of what is false at each step.
const isFalse = 1

// frame is one step of a right circuit.
type frame struct {
	c    api.Circuit
	step int
}

// then is the next frame.
func (f frame) then() frame { return frame{f.c, f.step + 1} }

// moved is what a literal of layer 15's formula is in the frame: the variables of the frames ahead stand ahead of its own, and what is false is one for all of them.
func (f frame) moved(x int) int {
	ahead := f.step * f.c.Max
	switch {
	case x > isFalse:
		return x + ahead
	case x < -isFalse:
		return x - ahead
	}
	return x
}

// at is the formula's literal of a circuit's literal.
func (f frame) at(l int) int {
	x := f.moved(l/2 + 1)
	if l%2 == 1 {
		return -x
	}
	return x
}

// gates is the clauses of the gates, which layer 15 tells of a step without its number.
func (f frame) gates() []api.Clause {
	one, _ := encode.Gates(f.c) // the circuit is right
	for _, clause := range one.Clauses {
		for i, x := range clause {
			clause[i] = f.moved(x)
		}
	}
	// The first one is that of what is false, which stands in the formula once.
	return one.Clauses[1:]
}

// constraints is the clauses of the constraints.
func (f frame) constraints() []api.Clause {
	var all []api.Clause
	for _, l := range f.c.Constraints {
		all = append(all, api.Clause{f.at(l)})
	}
	return all
}

// resets is the clauses of the latches that begin with 0 or with 1.
func (f frame) resets() []api.Clause {
	var all []api.Clause
	for _, l := range f.c.Latches {
		switch l.Reset {
		case 0:
			all = append(all, api.Clause{-f.at(l.Lit)})
		case 1:
			all = append(all, api.Clause{f.at(l.Lit)})
		}
	}
	return all
}

// next is the clauses by which the latches of the next frame are what they are to be.
func (f frame) next() []api.Clause {
	var all []api.Clause
	for _, l := range f.c.Latches {
		x, n := f.then().at(l.Lit), f.at(l.Next)
		all = append(all, api.Clause{-x, n}, api.Clause{x, -n})
	}
	return all
}

// part is a method of a frame that tells some of its clauses.
type part func(f frame) []api.Clause

// put puts the clauses that these tell of the frame behind others.
func (f frame) put(all []api.Clause, parts ...part) []api.Clause {
	for _, clauses := range parts {
		all = append(all, clauses(f)...)
	}
	return all
}
