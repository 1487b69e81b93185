package cone

import "trestle/api"

// uses gives of each variable the literals of which it is made. A 0 among them stands for nothing, since the variable 0 is not counted.
type uses [][2]int

// withinStep is of what each variable is made within one step.
func withinStep(c api.Circuit) uses {
	u := make(uses, c.Max+1)
	for _, g := range c.Ands {
		u[g.Out/2] = [2]int{g.Left, g.Right}
	}
	return u
}

// throughLatches is of what each variable is made, a latch of what it will be.
func throughLatches(c api.Circuit) uses {
	u := withinStep(c)
	for _, l := range c.Latches {
		u[l.Lit/2] = [2]int{l.Next}
	}
	return u
}

// support tells of each variable whether something hangs on it.
type support []bool

// supportOf is the support of some literals.
func supportOf(u uses, lits []int) support {
	s := search{found: make(support, len(u)), todo: map[int]struct{}{}}
	for _, l := range lits {
		s.add(l)
	}
	for v, some := s.take(); some; v, some = s.take() {
		for _, l := range u[v] {
			s.add(l)
		}
	}
	return s.found
}

// search is the variables that were found so far, and those of them that are still to be looked at.
type search struct {
	found support
	todo  map[int]struct{}
}

// add finds a literal's variable.
func (s search) add(l int) {
	v := l / 2
	if v == 0 || s.found[v] {
		return
	}
	s.found[v] = true
	s.todo[v] = struct{}{}
}

// take takes a variable out of those that are still to be looked at, if there is one. Which one that is changes nothing of what is found in the end.
func (s search) take() (int, bool) {
	for v := range s.todo {
		delete(s.todo, v)
		return v, true
	}
	return 0, false
}

// inputs is the numbers of the inputs that are in it, rising.
func (s support) inputs(c api.Circuit) []int {
	return s.numbers(len(c.Inputs), func(i int) int { return c.Inputs[i] })
}

// latches is the numbers of the latches that are in it, rising.
func (s support) latches(c api.Circuit) []int {
	return s.numbers(len(c.Latches), func(i int) int { return c.Latches[i].Lit })
}

// gates is the numbers of the gates that are in it, rising.
func (s support) gates(c api.Circuit) []int {
	return s.numbers(len(c.Ands), func(i int) int { return c.Ands[i].Out })
}

// numbers is the numbers of those of count things that define a variable that is in it; of each thing the literal is told that it defines.
func (s support) numbers(count int, defines func(i int) int) []int {
	var out []int
	for i := range count {
		if s[defines(i)/2] {
			out = append(out, i)
		}
	}
	return out
}
