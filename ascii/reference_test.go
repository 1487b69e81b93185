package ascii_test

import (
	"math/big"
	"regexp"
	"strings"

	"trestle/api"
	"trestle/shape"
)

// The chapter's forms; (?s:.) is any byte.
var (
	headForm   = regexp.MustCompile(`^(aag|aig)((?: (?:0|[1-9][0-9]*)){5,9})\n`)
	lineForm   = regexp.MustCompile(`^(?:0|[1-9][0-9]*)(?: (?:0|[1-9][0-9]*))*\n$`)
	symbolForm = regexp.MustCompile(`^([ilobcjf])(0|[1-9][0-9]*) ((?s:.)+)\n$`)
)

// valuesOf is the values of numbers with blanks between; false: one is above what a number may be.
func valuesOf(s string) ([]int, bool) {
	var out []int
	for _, digits := range strings.Fields(s) {
		n, _ := new(big.Int).SetString(digits, 10)
		if n.Cmp(big.NewInt(1<<31-1)) > 0 {
			return nil, false
		}
		out = append(out, int(n.Int64()))
	}
	return out, true
}

// headOf is Head by the chapter's words.
func headOf(s string) (word string, counts []int, end int, f api.Fault) {
	if len(s) > 1<<18 {
		return "", nil, 0, api.Fault{Code: api.ErrLong}
	}
	m := headForm.FindStringSubmatch(s)
	if m == nil {
		return "", nil, 0, api.Fault{Code: api.ErrHeader}
	}
	counts, ok := valuesOf(m[2])
	if !ok {
		return "", nil, 0, api.Fault{Code: api.ErrHeader}
	}
	for len(counts) < 9 {
		counts = append(counts, 0)
	}
	for _, n := range counts {
		// The limits of the greatest variable and of all other counts are one number.
		if n > 1<<14 || counts[1]+counts[2]+counts[4] > counts[0] {
			return "", nil, 0, api.Fault{Code: api.ErrCount}
		}
	}
	return m[1], counts, len(m[0]), api.Fault{}
}

// row is a piece of a text up to a byte 10, that one too, or up to the text's end.
type row struct {
	at   int
	text string
}

func rowsOf(s string, at int) []row {
	var out []row
	for _, piece := range strings.SplitAfter(s[at:], "\n") {
		if piece != "" {
			out = append(out, row{at, piece})
		}
		at += len(piece)
	}
	return out
}

// tailOf is Tail by the chapter's words.
func tailOf(s string, at int) (symbols []api.Symbol, comments []string, f api.Fault) {
	if len(s) > 1<<18 {
		return nil, nil, api.Fault{Code: api.ErrLong}
	}
	if at < 0 || at > len(s) {
		return nil, nil, api.Fault{Code: api.ErrRange}
	}
	behind := false
	for _, r := range rowsOf(s, at) {
		line, ended := strings.CutSuffix(r.text, "\n")
		m := symbolForm.FindStringSubmatch(r.text)
		switch {
		case !ended:
			return nil, nil, api.Fault{At: r.at, Code: api.ErrLine}
		case behind:
			comments = append(comments, line)
		case line == "c":
			behind = true
		case m == nil:
			return nil, nil, api.Fault{At: r.at, Code: api.ErrLine}
		default:
			n, ok := valuesOf(m[2])
			if !ok {
				return nil, nil, api.Fault{At: r.at, Code: api.ErrLine}
			}
			symbols = append(symbols, api.Symbol{Kind: m[1][0], At: n[0], Name: m[3]})
		}
	}
	return symbols, comments, api.Fault{}
}

// table takes the lines of the chapter's table, one behind the other, up to the first wrong one.
type table struct {
	rows  []row
	end   int // of the text
	wrong api.Fault
}

// take is the numbers of the next line, and whether it is right: from least to most numbers, none above limit.
func (b *table) take(least, most, limit int) ([]int, bool) {
	if b.wrong.Code != api.OK {
		return nil, false
	}
	b.wrong = api.Fault{At: b.end, Code: api.ErrLine}
	if len(b.rows) == 0 {
		return nil, false
	}
	r := b.rows[0]
	b.rows = b.rows[1:]
	b.wrong.At = r.at
	if !lineForm.MatchString(r.text) {
		return nil, false
	}
	n, ok := valuesOf(r.text)
	if !ok || len(n) < least || len(n) > most || n[0] > limit {
		return nil, false
	}
	b.wrong = api.Fault{}
	return n, true
}

func (b *table) ones(count, limit int) (out []int) {
	for range count {
		n, ok := b.take(1, 1, limit)
		if !ok {
			return nil
		}
		out = append(out, n[0])
	}
	return out
}

func (b *table) latches(count int) (out []api.Latch) {
	for range count {
		n, ok := b.take(2, 3, 1<<31-1)
		if !ok {
			return nil
		}
		n = append(n, 0)
		out = append(out, api.Latch{Lit: n[0], Next: n[1], Reset: n[2]})
	}
	return out
}

func (b *table) gates(count int) (out []api.And) {
	for range count {
		n, ok := b.take(3, 3, 1<<31-1)
		if !ok {
			return nil
		}
		out = append(out, api.And{Out: n[0], Left: n[1], Right: n[2]})
	}
	return out
}

// readOf is Read by the chapter's words.
func readOf(s string) (api.Circuit, api.Fault) {
	word, n, end, f := headOf(s)
	if f != (api.Fault{}) {
		return api.Circuit{}, f
	}
	if word != "aag" {
		return api.Circuit{}, api.Fault{Code: api.ErrHeader}
	}
	b := table{rows: rowsOf(s, end), end: len(s)}
	c := api.Circuit{Max: n[0]}
	c.Inputs, c.Latches = b.ones(n[1], 1<<31-1), b.latches(n[2])
	c.Outputs, c.Bads, c.Constraints = b.ones(n[3], 1<<31-1), b.ones(n[5], 1<<31-1), b.ones(n[6], 1<<31-1)
	for _, size := range b.ones(n[7], 1<<14) {
		c.Justice = append(c.Justice, b.ones(size, 1<<31-1))
	}
	c.Fairness, c.Ands = b.ones(n[8], 1<<31-1), b.gates(n[4])
	if b.wrong.Code != api.OK {
		return api.Circuit{}, b.wrong
	}
	end = len(s)
	if len(b.rows) > 0 {
		end = b.rows[0].at
	}
	c.Symbols, c.Comments, f = tailOf(s, end)
	if f.Code != api.OK {
		return api.Circuit{}, f
	}
	if _, e := shape.Check(c); e != api.OK {
		return api.Circuit{}, api.Fault{Code: e}
	}
	return c, api.Fault{}
}
