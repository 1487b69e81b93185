package hash_test

import (
	"trestle/api"
	"trestle/shape"
)

// asSaid does what the chapter's words say of a builder, going through all gates each time.
type asSaid struct {
	inputs, latches int
	gates           []api.And
}

func (b *asSaid) Gates() []api.And { return b.gates }

func (b *asSaid) Size() int { return len(b.gates) }

// variables is how many there are; 0 is none of them.
func (b *asSaid) variables() int { return b.inputs + b.latches + len(b.gates) }

// lacks tells whether one of these is no literal of the builder.
func (b *asSaid) lacks(lits ...int) bool {
	for _, l := range lits {
		if l < 0 || l >= 2*(b.variables()+1) {
			return true
		}
	}
	return false
}

// not is a literal's negation.
func not(l int) int {
	if l%2 == 0 {
		return l + 1
	}
	return l - 1
}

func (b *asSaid) And(x, y int) (int, api.Errno) {
	if b.lacks(x, y) {
		return 0, api.ErrNone
	}
	if x < y {
		x, y = y, x
	}
	if y == 0 {
		return 0, api.OK
	}
	if y == 1 {
		return x, api.OK
	}
	if x == y {
		return x, api.OK
	}
	if not(x) == y {
		return 0, api.OK
	}
	for _, g := range b.gates {
		if g.Left == x && g.Right == y {
			return g.Out, api.OK
		}
	}
	if b.variables() == api.MaxVar || len(b.gates) == api.MaxItems {
		return 0, api.ErrLong
	}
	out := 2 * (b.variables() + 1)
	b.gates = append(b.gates, api.And{Out: out, Left: x, Right: y})
	return out, api.OK
}

func (b *asSaid) Or(x, y int) (int, api.Errno) {
	if b.lacks(x, y) {
		return 0, api.ErrNone
	}
	l, e := b.And(not(x), not(y))
	if e != api.OK {
		return 0, e
	}
	return not(l), api.OK
}

func (b *asSaid) Xor(x, y int) (int, api.Errno) {
	if b.lacks(x, y) {
		return 0, api.ErrNone
	}
	l, e := b.And(x, y)
	if e != api.OK {
		return 0, e
	}
	k, e := b.And(not(x), not(y))
	if e != api.OK {
		return 0, e
	}
	return b.And(not(l), not(k))
}

func (b *asSaid) Mux(s, x, y int) (int, api.Errno) {
	if b.lacks(s, x, y) {
		return 0, api.ErrNone
	}
	l, e := b.And(s, x)
	if e != api.OK {
		return 0, e
	}
	k, e := b.And(not(s), y)
	if e != api.OK {
		return 0, e
	}
	return b.Or(l, k)
}

// buildOf is what Build makes of a right circuit by the chapter's words.
func buildOf(c api.Circuit) (api.Circuit, []int) {
	b := &asSaid{inputs: len(c.Inputs), latches: len(c.Latches)}
	m := make([]int, c.Max+1)
	for i, l := range c.Inputs {
		m[l/2] = 2 * (i + 1)
	}
	for i, l := range c.Latches {
		m[l.Lit/2] = 2 * (len(c.Inputs) + i + 1)
	}
	move := func(l int) int {
		if l%2 == 1 {
			return not(m[l/2])
		}
		return m[l/2]
	}
	order, _ := shape.Order(c)
	for _, i := range order {
		m[c.Ands[i].Out/2], _ = b.And(move(c.Ands[i].Left), move(c.Ands[i].Right))
	}
	n := shape.Copy(c)
	for _, list := range append(n.Justice, n.Inputs, n.Outputs, n.Bads, n.Constraints, n.Fairness) {
		for i, l := range list {
			list[i] = move(l)
		}
	}
	for i, l := range c.Latches {
		n.Latches[i] = api.Latch{Lit: move(l.Lit), Next: move(l.Next), Reset: l.Reset}
		if l.Reset == l.Lit {
			n.Latches[i].Reset = move(l.Lit)
		}
	}
	n.Ands, n.Max = b.gates, b.variables()
	return n, m
}
