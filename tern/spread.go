package tern

import "trestle/api"

// spread is a circuit's values while more and more of them are made 2. By a row with more 2s no variable gets another value but 2, so each one changes once at most, and only the gates that use what changed need be looked at again.
type spread struct {
	ands   []api.And
	users  [][]int // of each variable the gates that use it
	values []int
	held   []bool // the variables that may not be made 2
	trail  []change
}

// change is a variable that was made 2, and the value that it had.
type change struct{ variable, value int }

// newSpread goes on from values of all variables, of which none is held yet; it changes them.
func newSpread(c api.Circuit, values []int) *spread {
	s := &spread{ands: c.Ands, users: make([][]int, len(values)), values: values, held: make([]bool, len(values))}
	for i, g := range c.Ands {
		s.users[g.Left/2] = append(s.users[g.Left/2], i)
		s.users[g.Right/2] = append(s.users[g.Right/2], i)
	}
	return s
}

// loosen makes a latch's variable 2, and all that is 2 by that; if one of these is held, nothing is changed.
func (s *spread) loosen(variable int) {
	from := len(s.trail)
	s.put(variable)
	for at := from; at < len(s.trail); at++ {
		v := s.trail[at].variable
		if s.held[v] {
			s.takeBack(from)
			return
		}
		for _, i := range s.users[v] {
			g := s.ands[i]
			if gateOf(s.values, g) == either {
				s.put(g.Out / 2)
			}
		}
	}
}

// put makes a variable 2, if it is not.
func (s *spread) put(variable int) {
	if s.values[variable] == either {
		return
	}
	s.trail = append(s.trail, change{variable, s.values[variable]})
	s.values[variable] = either
}

// takeBack gives what was changed from a place of the trail on the values that it had.
func (s *spread) takeBack(from int) {
	for _, was := range s.trail[from:] {
		s.values[was.variable] = was.value
	}
	s.trail = s.trail[:from]
}
