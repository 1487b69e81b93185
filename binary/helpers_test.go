package binary_test

import (
	"strings"
	"testing"

	"trestle/api"
	"trestle/ascii"
	"trestle/binary"
	"trestle/samples"
	"trestle/shape"
)

// bodyLine is a line between header and gates, and how many numbers may stand in it, from one on.
type bodyLine struct {
	text string
	most int
}

const fullHeader = "aig 9 2 4 2 3 1 2 3 2"

// fullBody is the lines of latches, outputs, bads, constraints, justice properties, their literals, fairness.
func fullBody() []bodyLine {
	return []bodyLine{
		{"13", 2}, {"19 1", 2}, {"5 10", 2}, {"0 0", 2},
		{"14", 1}, {"1", 1},
		{"15", 1},
		{"0", 1}, {"9", 1},
		{"2", 1}, {"0", 1}, {"1", 1},
		{"3", 1}, {"12", 1}, {"18", 1},
		{"7", 1}, {"19", 1},
	}
}

// fullGates is the bytes of each gate's numbers; some of them look like a line's end.
func fullGates() []string {
	return []string{"\x01", "\x01", "\n", "\x00", "\n", "\x05"}
}

// fullEnd is the lines of symbols and comments.
func fullEnd() []string {
	return []string{
		"i1 x", "l0 a b", "f1  ", "c0 c", "j1 \x7f\xff", "o1 o ", "b0 i0 x", "i0 x",
		"c", "", "i0 x", "c", "7", " a comment \x00\r ",
	}
}

// fullText is a text with something of all that a text may have; its parts may be replaced.
func fullText(body []bodyLine, gates, end []string) string {
	all := []string{fullHeader}
	for _, l := range body {
		all = append(all, l.text)
	}
	return samples.Lines(all...) + strings.Join(gates, "") + samples.Lines(end...)
}

// allOf is the full text as it must be.
func allOf() string { return fullText(fullBody(), fullGates(), fullEnd()) }

// full is the circuit of that text.
func full() api.Circuit {
	return api.Circuit{
		Max:         9,
		Inputs:      []int{2, 4},
		Latches:     []api.Latch{{Lit: 6, Next: 13, Reset: 0}, {Lit: 8, Next: 19, Reset: 1}, {Lit: 10, Next: 5, Reset: 10}, {Lit: 12, Next: 0, Reset: 0}},
		Outputs:     []int{14, 1},
		Bads:        []int{15},
		Constraints: []int{0, 9},
		Justice:     [][]int{{3, 12}, {}, {18}},
		Fairness:    []int{7, 19},
		Ands:        []api.And{{Out: 14, Left: 13, Right: 12}, {Out: 16, Left: 6, Right: 6}, {Out: 18, Left: 8, Right: 3}},
		Symbols: []api.Symbol{
			{Kind: 'i', At: 1, Name: "x"}, {Kind: 'l', At: 0, Name: "a b"}, {Kind: 'f', At: 1, Name: " "}, {Kind: 'c', At: 0, Name: "c"},
			{Kind: 'j', At: 1, Name: "\x7f\xff"}, {Kind: 'o', At: 1, Name: "o "}, {Kind: 'b', At: 0, Name: "i0 x"}, {Kind: 'i', At: 0, Name: "x"},
		},
		Comments: []string{"", "i0 x", "c", "7", " a comment \x00\r "},
	}
}

// lineAt is where the line i of the full text's body begins.
func lineAt(body []bodyLine, i int) int { return len(fullText(body[:i], nil, nil)) }

// numberAt is where the number i of the full text's gates begins.
func numberAt(body []bodyLine, gates []string, i int) int { return len(fullText(body, gates[:i], nil)) }

// reads holds Read, and Either, against the circuit that is wanted.
func reads(t *testing.T, s string, want api.Circuit) {
	t.Helper()
	holds(t, s, want, api.Fault{})
}

// refuses holds Read, and Either, against the fault that is wanted; beside it there must be nothing.
func refuses(t *testing.T, s string, at int, code api.Errno) {
	t.Helper()
	holds(t, s, api.Circuit{}, api.Fault{At: at, Code: code})
}

// holds holds Read against what is wanted of a text, and Either too; but a text with the other format's word is Either's own matter.
func holds(t *testing.T, s string, want api.Circuit, fault api.Fault) {
	t.Helper()
	if c, f := binary.Read(s); f != fault || !shape.Same(c, want) {
		t.Fatalf("%s:\n%+v, %v, want\n%+v, %v", samples.Short(s), c, f, want, fault)
	}
	if word, _, _, _ := ascii.Head(s); word == "aag" {
		return
	}
	if c, f := binary.Either(s); f != fault || !shape.Same(c, want) {
		t.Fatalf("Either of %s:\n%+v, %v, want\n%+v, %v", samples.Short(s), c, f, want, fault)
	}
}

// sameAsWords holds Read, and Either, against the chapter's words.
func sameAsWords(t *testing.T, s string) api.Fault {
	t.Helper()
	want, fault := readOf(s)
	holds(t, s, want, fault)
	return fault
}

// binaryOf is a circuit renumbered to the binary order.
func binaryOf(t *testing.T, c api.Circuit) api.Circuit {
	t.Helper()
	out, _, e := shape.Renumber(c)
	if e != api.OK {
		t.Fatalf("%+v: %v", c, e)
	}
	return out
}

// inputsTo is the literals of inputs, from 2 to most.
func inputsTo(most int) []int {
	var out []int
	for l := 2; l <= most; l += 2 {
		out = append(out, l)
	}
	return out
}
