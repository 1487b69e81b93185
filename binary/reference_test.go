package binary_test

import (
	leb "encoding/binary"
	"math/big"
	"regexp"
	"strings"

	"trestle/api"
	"trestle/ascii"
	"trestle/shape"
)

var lineForm = regexp.MustCompile(`^(?:0|[1-9][0-9]*)(?: (?:0|[1-9][0-9]*))*\n`)

// pieces takes what stands behind the header, piece by piece, up to the first wrong one.
type pieces struct {
	text  string
	at    int
	wrong api.Fault
}

// line is the numbers of the next line, as many as most, 0 where they are not told; none may be above limit.
func (p *pieces) line(most, limit int) []int {
	out := make([]int, most)
	if p.wrong.Code != api.OK {
		return out
	}
	line := lineForm.FindString(p.text[p.at:])
	told := strings.Fields(line)
	right := len(told) >= 1 && len(told) <= most
	for i := range told {
		n, _ := new(big.Int).SetString(told[i], 10)
		right = right && n.Cmp(big.NewInt(int64(limit))) <= 0
		if right {
			out[i] = int(n.Int64())
		}
	}
	if !right {
		p.wrong = api.Fault{At: p.at, Code: api.ErrLine}
		return make([]int, most)
	}
	p.at += len(line)
	return out
}

// list is the numbers of some lines of one each.
func (p *pieces) list(count, limit int) []int {
	var out []int
	for range count {
		if p.wrong.Code != api.OK {
			return nil
		}
		out = append(out, p.line(1, limit)[0])
	}
	return out
}

// delta is the next number of a gate, from least to most.
func (p *pieces) delta(least, most int) int {
	if p.wrong.Code != api.OK {
		return least
	}
	n, size := leb.Uvarint([]byte(p.text[p.at:]))
	shortest := size > 0 && string(leb.AppendUvarint(nil, n)) == p.text[p.at:p.at+size]
	if !shortest || n < uint64(least) || n > uint64(most) {
		p.wrong = api.Fault{At: p.at, Code: api.ErrDelta}
		return least
	}
	p.at += size
	return int(n)
}

// readOf is Read by the chapter's words.
func readOf(s string) (api.Circuit, api.Fault) {
	const most = 1<<31 - 1
	word, n, end, f := ascii.Head(s)
	switch {
	case f.Code != api.OK:
		return api.Circuit{}, f
	case word != "aig":
		return api.Circuit{}, api.Fault{Code: api.ErrHeader}
	case n[0] != n[1]+n[2]+n[4]:
		return api.Circuit{}, api.Fault{Code: api.ErrCount}
	}
	p := pieces{text: s, at: end}
	c := api.Circuit{Max: n[0]}
	for i := range n[1] {
		c.Inputs = append(c.Inputs, 2*(i+1))
	}
	for i := range n[2] {
		told := p.line(2, most)
		c.Latches = append(c.Latches, api.Latch{Lit: 2 * (n[1] + i + 1), Next: told[0], Reset: told[1]})
	}
	c.Outputs, c.Bads, c.Constraints = p.list(n[3], most), p.list(n[5], most), p.list(n[6], most)
	for _, size := range p.list(n[7], 1<<14) {
		c.Justice = append(c.Justice, p.list(size, most))
	}
	c.Fairness = p.list(n[8], most)
	for i := range n[4] {
		out := 2 * (n[1] + n[2] + i + 1)
		left := out - p.delta(1, out)
		c.Ands = append(c.Ands, api.And{Out: out, Left: left, Right: left - p.delta(0, left)})
	}
	if p.wrong.Code != api.OK {
		return api.Circuit{}, p.wrong
	}
	c.Symbols, c.Comments, f = ascii.Tail(s, p.at)
	if f.Code != api.OK {
		return api.Circuit{}, f
	}
	if _, e := shape.Check(c); e != api.OK {
		return api.Circuit{}, api.Fault{Code: e}
	}
	return c, api.Fault{}
}
