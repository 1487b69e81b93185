package binary_test

import (
	"slices"
	"strings"
	"testing"
	"unsafe"

	"trestle/api"
	"trestle/binary"
	"trestle/samples"
	"trestle/shape"
)

// reader is each of both calls.
type reader func(s string) (api.Circuit, api.Fault)

// R4, R7: two answers share no memory, and the same text is read as the same the next time.
func TestMemoryOfCircuits(t *testing.T) {
	s := allOf()
	for _, read := range []reader{binary.Read, binary.Either} {
		first, _ := read(s)
		second, _ := read(s)
		samples.Spoil(second)
		if !shape.Same(first, full()) {
			t.Errorf("two answers share memory: %+v", first)
		}
		reads(t, s, full())
		refuses(t, s+"x", len(s), api.ErrLine)
		reads(t, s, full())
	}
}

// R4: no two lists of one answer share memory, spare room too.
func TestListsOfOneCircuit(t *testing.T) {
	for _, read := range []reader{binary.Read, binary.Either} {
		c, _ := read(allOf())
		all := samples.Lists(c)
		for i, l := range all {
			samples.Fill(l, 100+i)
		}
		for i, l := range all {
			if slices.ContainsFunc(l, func(x int) bool { return x != 100+i }) {
				t.Errorf("the list %d is shared: %v", i, l)
			}
		}
	}
}

// isWithin tells whether a part shares memory with a text.
func isWithin(part, text string) bool {
	from := uintptr(unsafe.Pointer(unsafe.StringData(text)))
	at := uintptr(unsafe.Pointer(unsafe.StringData(part)))
	return part != "" && from <= at && at < from+uintptr(len(text))
}

// R4: texts of an answer are not pieces of the text that is handed in, which would be kept as a whole by them.
func TestMemoryOfTexts(t *testing.T) {
	s := allOf()
	if !isWithin(s[5:9], s) || isWithin(strings.Clone(s), s) {
		t.Fatal("isWithin")
	}
	for _, read := range []reader{binary.Read, binary.Either} {
		c, _ := read(s)
		parts := slices.Clone(c.Comments)
		for _, n := range c.Symbols {
			parts = append(parts, n.Name)
		}
		for _, part := range parts {
			if isWithin(part, s) {
				t.Errorf("%q shares memory with the text", part)
			}
		}
		if len(parts) != 13 {
			t.Error(len(parts))
		}
	}
}
