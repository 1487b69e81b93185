package cnf

import (
	"trestle/api"
	"trestle/lits"
)

// forcer goes on from literals that are true to those that must be true then.
type forcer struct {
	vars    int
	clauses []api.Clause // each literal of a clause stands in it but once
	open    []int        // how many literals of each clause have not been gone through as false
	users   [][]int      // the clauses that have a literal, by its place
	holds   []bool       // whether a literal is true, by its place
	queue   []int        // the literals that are true, as they came
}

// newForcer is one by which nothing is true yet.
func newForcer(f api.Cnf) *forcer {
	places := 2*f.Vars + 1
	r := &forcer{vars: f.Vars, users: make([][]int, places), holds: make([]bool, places)}
	for _, c := range f.Clauses {
		n, e := lits.Normal(c)
		// A clause with a literal and its contrary forces nothing that is not so without it.
		if e == api.OK {
			r.add(n)
		}
	}
	return r
}

// place is where a literal stands in lists of all.
func (r *forcer) place(x int) int { return x + r.vars }

// add takes a clause in.
func (r *forcer) add(c api.Clause) {
	for _, x := range c {
		at := r.place(x)
		r.users[at] = append(r.users[at], len(r.clauses))
	}
	r.clauses = append(r.clauses, c)
	r.open = append(r.open, len(c))
}

// run goes on from some literals until nothing follows any more; false: that can't be.
func (r *forcer) run(given []int) bool {
	for _, x := range given {
		if !r.set(x) {
			return false
		}
	}
	for i := range r.clauses {
		if !r.look(i) {
			return false
		}
	}
	for at := 0; at < len(r.queue); at++ {
		for _, i := range r.users[r.place(-r.queue[at])] {
			r.open[i]--
			if !r.look(i) {
				return false
			}
		}
	}
	return true
}

// look makes the last literal of a clause true, if no other one is open; false: that can't be.
func (r *forcer) look(i int) bool {
	if r.open[i] > 1 {
		return true
	}
	for _, x := range r.clauses[i] {
		if !r.holds[r.place(-x)] {
			return r.set(x)
		}
	}
	return false
}

// set makes a literal true; false: its contrary is.
func (r *forcer) set(x int) bool {
	if r.holds[r.place(-x)] {
		return false
	}
	if !r.holds[r.place(x)] {
		r.holds[r.place(x)] = true
		r.queue = append(r.queue, x)
	}
	return true
}

// forced is the literals that are true, by rising variables.
func (r *forcer) forced() []int {
	out := make([]int, 0, len(r.queue))
	for v := 1; v <= r.vars; v++ {
		switch {
		case r.holds[r.place(v)]:
			out = append(out, v)
		case r.holds[r.place(-v)]:
			out = append(out, -v)
		}
	}
	return out
}
