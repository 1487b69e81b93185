package binary

import (
	"trestle/api"
	"trestle/ascii"
	"trestle/shape"
	"trestle/words"
)

const (
	blank   = ' '
	lineEnd = '\n'
)

// reader goes through the bytes behind a text's header.
type reader struct {
	text string
	at   int // where what is read next begins
}

// circuit reads all that stands behind the header. Its labels are the reader's states: the parts of the format, in their order, and where each of them leads if something in it is wrong.
func (r *reader) circuit(counts []int) (c api.Circuit, f api.Fault) {
	c = outline(counts)
	latch, gate := 0, 0

latches:
	if latch == len(c.Latches) {
		goto lists
	}
	if f = r.latch(&c.Latches[latch]); f.Code != api.OK {
		goto refused
	}
	latch++
	goto latches

lists:
	if f = r.lists(&c); f.Code != api.OK {
		goto refused
	}

gates:
	if gate == len(c.Ands) {
		goto end
	}
	if f = r.gate(&c.Ands[gate]); f.Code != api.OK {
		goto refused
	}
	gate++
	goto gates

end:
	if c.Symbols, c.Comments, f = ascii.Tail(r.text, r.at); f.Code != api.OK {
		goto refused
	}
	if _, e := shape.Check(c); e != api.OK {
		f = api.Fault{Code: e}
		goto refused
	}
	return c, api.Fault{}

refused:
	return api.Circuit{}, f
}

// latch reads the line of a latch of which the literal is known.
func (r *reader) latch(l *api.Latch) api.Fault {
	told, f := r.line(2)
	if f.Code != api.OK {
		return f
	}
	l.Next = told[0]
	if len(told) == 2 {
		l.Reset = told[1]
	}
	return api.Fault{}
}

// lists reads the literals between latches and gates; whether they may be any is layer 3's matter.
func (r *reader) lists(c *api.Circuit) api.Fault {
	for _, list := range [...][]int{c.Outputs, c.Bads, c.Constraints} {
		if f := r.fill(list, api.MaxNumber); f.Code != api.OK {
			return f
		}
	}
	sizes := make([]int, len(c.Justice))
	if f := r.fill(sizes, api.MaxItems); f.Code != api.OK {
		return f
	}
	for i, size := range sizes {
		// Made only now, since the sum of all may be far more than there are lines.
		c.Justice[i] = make([]int, size)
		if f := r.fill(c.Justice[i], api.MaxNumber); f.Code != api.OK {
			return f
		}
	}
	return r.fill(c.Fairness, api.MaxNumber)
}

// fill reads a line of one number for each member of a list; none of them may be above most.
func (r *reader) fill(list []int, most int) api.Fault {
	for i := range list {
		begin := r.at
		told, f := r.line(1)
		if f.Code != api.OK {
			return f
		}
		if told[0] > most {
			return api.Fault{At: begin, Code: api.ErrLine}
		}
		list[i] = told[0]
	}
	return api.Fault{}
}

// line is the next line's numbers, from one to most of them. A blank leads back to the state in which a number must stand; what is wrong is told with the place where the line begins.
func (r *reader) line(most int) ([]int, api.Fault) {
	var told []int
	at := r.at

number:
	n, end, f := words.Number(r.text, at)
	if f.Code != api.OK || end == len(r.text) || len(told) == most {
		goto refused
	}
	told = append(told, n)
	at = end + 1
	switch r.text[end] {
	case blank:
		goto number
	case lineEnd:
		r.at = at
		return told, api.Fault{}
	}

refused:
	return nil, api.Fault{At: r.at, Code: api.ErrLine}
}

// gate reads both numbers of a gate of which Out is known.
func (r *reader) gate(g *api.And) (f api.Fault) {
	if g.Left, f = r.below(g.Out, 1); f.Code != api.OK {
		return f
	}
	g.Right, f = r.below(g.Left, 0)
	return f
}

// below is the literal that is less than another one by the next number, which must be at least least.
func (r *reader) below(other, least int) (int, api.Fault) {
	n, end, f := words.Get(r.text, r.at)
	if f.Code != api.OK || n < least || n > other {
		return 0, api.Fault{At: r.at, Code: api.ErrDelta}
	}
	r.at = end
	return other - n, api.Fault{}
}
