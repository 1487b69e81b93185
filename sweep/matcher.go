package sweep

import "trestle/api"

// deed is what a latch or a gate does: a latch its Reset and its Next; a gate, with conjunction in place of a Reset, its two literals, the greater one ahead. What does the same is equal.
type deed [3]int

// conjunction is no latch's Reset.
const conjunction = 2

// matcher finds out which literals of a circuit are equal. What was looked at is looked at again but where it uses something of which more is known by now, so that a long row of latches, each one equal to another by those ahead of them, is gone along once.
type matcher struct {
	is    []int        // of each variable a literal that it is equal to, its own where it stands for all those
	users [][]int      // of each variable that stands for others the variables of what uses one of them
	does  []deed       // of each variable what it does, by what was known when it was last looked at
	first map[deed]int // the variable that was seen to do so first
	todo  []int        // the variables that are still to be looked at
}

// newMatcher has all gates of a circuit, and all latches that begin with 0 or 1, still to be looked at.
func newMatcher(c api.Circuit) *matcher {
	m := &matcher{is: make([]int, c.Max+1), users: make([][]int, c.Max+1), does: make([]deed, c.Max+1), first: map[deed]int{}}
	for v := range m.is {
		m.is[v] = 2 * v
	}
	for _, l := range c.Latches {
		// Of those that begin with either value each one may begin with another one.
		if l.Reset != l.Lit {
			m.add(l.Lit/2, deed{l.Reset, l.Next})
		}
	}
	for _, g := range c.Ands {
		m.add(g.Out/2, deed{conjunction, g.Left, g.Right})
	}
	return m
}

// add says what a variable does.
func (m *matcher) add(v int, d deed) {
	m.does[v] = d
	for _, l := range d[1:] {
		m.users[l/2] = append(m.users[l/2], v)
	}
	m.todo = append(m.todo, v)
}

// match looks at all that is still to be looked at.
func (m *matcher) match() {
	for len(m.todo) > 0 {
		last := len(m.todo) - 1
		v := m.todo[last]
		m.todo = m.todo[:last]
		m.unite(2*v, m.asDoes(v))
	}
}

// asDoes is a literal that a variable is equal to by what it does; if there is none but its own, that.
func (m *matcher) asDoes(v int) int {
	d := deed{m.does[v][0], m.of(m.does[v][1]), m.of(m.does[v][2])}
	if d[0] == conjunction {
		d[1], d[2] = max(d[1], d[2]), min(d[1], d[2])
		if l, is := trivial(d[1], d[2]); is {
			return l
		}
	}
	m.does[v] = d
	if _, known := m.first[d]; !known {
		m.first[d] = v
	}
	return 2 * m.first[d]
}

// trivial tells whether the conjunction of two literals, the greater one ahead, is no gate by chapter 9, and what it is then.
func trivial(x, y int) (l int, is bool) {
	switch {
	case y == 0 || y == x^1:
		return 0, true
	case y == 1 || y == x:
		return x, true
	}
	return 0, false
}

// unite says that two literals are equal, so that one of both stands for them: 0 or 1 for all that is constant, else the one that more uses, since what uses the other one is to be looked at again.
func (m *matcher) unite(k, l int) {
	k, l = m.of(k), m.of(l)
	if k == l {
		return
	}
	if k/2 == 0 || l/2 != 0 && len(m.users[k/2]) > len(m.users[l/2]) {
		k, l = l, k
	}
	v, w := k/2, l/2
	m.is[v] = l ^ k%2
	m.todo = append(m.todo, m.users[v]...)
	m.users[w] = append(m.users[w], m.users[v]...)
	m.users[v] = nil
}

// of is the literal that stands for a literal.
func (m *matcher) of(l int) int {
	v := l / 2
	if m.is[v] != 2*v {
		m.is[v] = m.of(m.is[v])
	}
	return m.is[v] ^ l%2
}
