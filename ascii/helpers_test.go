package ascii_test

import (
	"slices"
	"testing"

	"trestle/api"
	"trestle/ascii"
	"trestle/samples"
	"trestle/shape"
)

// allBytes is the text of all bytes.
func allBytes() string {
	b := make([]byte, 256)
	for i := range b {
		b[i] = byte(i)
	}
	return string(b)
}

// bodyLine is a line between header and end, and how many numbers may stand in it.
type bodyLine struct {
	text        string
	least, most int
}

const fullHeader = "aag 10 2 4 2 3 1 2 3 2"

// fullBody is the lines of each row of the chapter's table.
func fullBody() []bodyLine {
	return []bodyLine{
		{"4", 1, 1}, {"20", 1, 1},
		{"2 13", 2, 3}, {"8 21 1", 2, 3}, {"6 5 6", 2, 3}, {"10 0 0", 2, 3},
		{"14", 1, 1}, {"1", 1, 1},
		{"15", 1, 1},
		{"0", 1, 1}, {"9", 1, 1},
		{"2", 1, 1}, {"0", 1, 1}, {"1", 1, 1},
		{"3", 1, 1}, {"12", 1, 1}, {"18", 1, 1},
		{"7", 1, 1}, {"19", 1, 1},
		{"14 13 12", 3, 3}, {"12 4 3", 3, 3}, {"18 0 21", 3, 3},
	}
}

// fullEnd is the lines of symbols and comments.
func fullEnd() []string {
	return []string{
		"i1 x", "l0 a b", "f1  ", "c0 c", "j1 \x7f\xff", "o1 o ", "b0 i0 x", "i0 x",
		"c", "", "i0 x", "c", "7", " a comment \x00\r ",
	}
}

// fullText is a text with something of all that a text may have; body and end replace its lines.
func fullText(body []bodyLine, end []string) string {
	all := []string{fullHeader}
	for _, l := range body {
		all = append(all, l.text)
	}
	return samples.Lines(append(all, end...)...)
}

// full is the circuit of that text.
func full() api.Circuit {
	return api.Circuit{
		Max:         10,
		Inputs:      []int{4, 20},
		Latches:     []api.Latch{{Lit: 2, Next: 13, Reset: 0}, {Lit: 8, Next: 21, Reset: 1}, {Lit: 6, Next: 5, Reset: 6}, {Lit: 10, Next: 0, Reset: 0}},
		Outputs:     []int{14, 1},
		Bads:        []int{15},
		Constraints: []int{0, 9},
		Justice:     [][]int{{3, 12}, {}, {18}},
		Fairness:    []int{7, 19},
		Ands:        []api.And{{Out: 14, Left: 13, Right: 12}, {Out: 12, Left: 4, Right: 3}, {Out: 18, Left: 0, Right: 21}},
		Symbols: []api.Symbol{
			{Kind: 'i', At: 1, Name: "x"}, {Kind: 'l', At: 0, Name: "a b"}, {Kind: 'f', At: 1, Name: " "}, {Kind: 'c', At: 0, Name: "c"},
			{Kind: 'j', At: 1, Name: "\x7f\xff"}, {Kind: 'o', At: 1, Name: "o "}, {Kind: 'b', At: 0, Name: "i0 x"}, {Kind: 'i', At: 0, Name: "x"},
		},
		Comments: []string{"", "i0 x", "c", "7", " a comment \x00\r "},
	}
}

// placeOf is where the line i of the full text's body begins.
func placeOf(body []bodyLine, i int) int {
	return len(fullText(body[:i], nil))
}

// reads holds Read against the circuit that is wanted.
func reads(t *testing.T, s string, want api.Circuit) {
	t.Helper()
	if c, f := ascii.Read(s); f != (api.Fault{}) || !shape.Same(c, want) {
		t.Fatalf("%s:\n%+v, %v, want\n%+v", samples.Short(s), c, f, want)
	}
}

// refuses holds Read against the fault that is wanted; beside it there must be nothing.
func refuses(t *testing.T, s string, at int, code api.Errno) {
	t.Helper()
	c, f := ascii.Read(s)
	if want := (api.Fault{At: at, Code: code}); f != want || !shape.Same(c, api.Circuit{}) {
		t.Fatalf("%s: %+v, %v, want %v", samples.Short(s), c, f, want)
	}
}

// sameAsWords holds Read against the chapter's words.
func sameAsWords(t *testing.T, s string) api.Fault {
	t.Helper()
	want, fault := readOf(s)
	if c, f := ascii.Read(s); f != fault || !shape.Same(c, want) {
		t.Fatalf("%s:\n%+v, %v, want\n%+v, %v", samples.Short(s), c, f, want, fault)
	}
	return fault
}

// heads holds Head against what is wanted.
func heads(t *testing.T, s, word string, counts []int, end int, want api.Fault) {
	t.Helper()
	if w, n, e, f := ascii.Head(s); w != word || !slices.Equal(n, counts) || e != end || f != want {
		t.Fatalf("%s: %q, %v, %d, %v, want %q, %v, %d, %v", samples.Short(s), w, n, e, f, word, counts, end, want)
	}
}

// tails holds Tail against what is wanted.
func tails(t *testing.T, s string, at int, symbols []api.Symbol, comments []string, want api.Fault) {
	t.Helper()
	if l, c, f := ascii.Tail(s, at); !slices.Equal(l, symbols) || !slices.Equal(c, comments) || f != want {
		t.Fatalf("%s at %d: %v, %q, %v, want %v, %q, %v", samples.Short(s), at, l, c, f, symbols, comments, want)
	}
}
