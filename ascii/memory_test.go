package ascii_test

import (
	"slices"
	"strings"
	"testing"
	"unsafe"

	"trestle/api"
	"trestle/ascii"
	"trestle/samples"
	"trestle/shape"
)

// R4, R7: two answers share no memory, and the same text is read as the same the next time.
func TestMemoryOfCircuits(t *testing.T) {
	s := fullText(fullBody(), fullEnd())
	first, _ := ascii.Read(s)
	second, _ := ascii.Read(s)
	samples.Spoil(second)
	if !shape.Same(first, full()) {
		t.Errorf("two answers share memory: %+v", first)
	}
	reads(t, s, full())
	refuses(t, s+"x", len(s), api.ErrLine)
	reads(t, s, full())
}

// R4: no two lists of one answer share memory, spare room too.
func TestListsOfOneCircuit(t *testing.T) {
	c, _ := ascii.Read(fullText(fullBody(), fullEnd()))
	all := samples.Lists(c)
	for i, l := range all {
		samples.Fill(l, 100+i)
	}
	for i, l := range all {
		if slices.ContainsFunc(l, func(x int) bool { return x != 100+i }) {
			t.Errorf("the list %d is shared: %v", i, l)
		}
	}
}

// R4, R7: the lists of Head and of Tail are new ones each time.
func TestMemoryOfParts(t *testing.T) {
	const head, tail = "aag 1 0 1 0 0 1\n", "i0 x\nl0 y\nc\n1\n2\n"
	_, counts, _, _ := ascii.Head(head)
	_, other, _, _ := ascii.Head(head)
	samples.Fill(other, 99)
	if !slices.Equal(counts, []int{1, 0, 1, 0, 0, 1, 0, 0, 0}) {
		t.Error(counts)
	}
	symbols, comments, _ := ascii.Tail(tail, 0)
	otherSymbols, otherComments, _ := ascii.Tail(tail, 0)
	samples.Fill(otherSymbols, api.Symbol{})
	samples.Fill(otherComments, "spoilt")
	want := []api.Symbol{{Kind: 'i', Name: "x"}, {Kind: 'l', Name: "y"}}
	if !slices.Equal(symbols, want) || !slices.Equal(comments, []string{"1", "2"}) {
		t.Error(symbols, comments)
	}
	heads(t, head, "aag", []int{1, 0, 1, 0, 0, 1, 0, 0, 0}, 16, api.Fault{})
	tails(t, tail, 0, want, []string{"1", "2"}, api.Fault{})
}

// isWithin tells whether a part shares memory with a text.
func isWithin(part, text string) bool {
	from := uintptr(unsafe.Pointer(unsafe.StringData(text)))
	at := uintptr(unsafe.Pointer(unsafe.StringData(part)))
	return part != "" && from <= at && at < from+uintptr(len(text))
}

// R4: texts of an answer are not pieces of the text that is handed in, which would be kept as a whole by them.
func TestMemoryOfTexts(t *testing.T) {
	s := fullText(fullBody(), fullEnd())
	if !isWithin(s[5:9], s) || isWithin(strings.Clone(s), s) {
		t.Fatal("isWithin")
	}
	word, _, end, _ := ascii.Head(s)
	c, _ := ascii.Read(s)
	symbols, comments, _ := ascii.Tail(s, len(fullText(fullBody(), nil)))
	parts := slices.Concat([]string{word}, c.Comments, comments)
	for _, n := range append(symbols, c.Symbols...) {
		parts = append(parts, n.Name)
	}
	for _, part := range parts {
		if isWithin(part, s) {
			t.Errorf("%q shares memory with the text", part)
		}
	}
	if len(parts) != 27 || end != len(fullHeader)+1 {
		t.Error(len(parts), end)
	}
}
