package print_test

import (
	"math/rand"
	"slices"
	"testing"

	"trestle/api"
	"trestle/ascii"
	"trestle/binary"
	"trestle/print"
	"trestle/samples"
	"trestle/shape"
)

// readAs holds what a reader reads of a text against a circuit.
func readAs(t *testing.T, read func(s string) (api.Circuit, api.Fault), s string, want api.Circuit) {
	t.Helper()
	if c, f := read(s); f != (api.Fault{}) || !shape.Same(c, want) {
		t.Fatalf("%s:\n%+v, %v, want\n%+v", samples.Short(s), c, f, want)
	}
}

// told is what a call tells of a right circuit.
func told(t *testing.T, call printer, c api.Circuit) string {
	t.Helper()
	s, e := call(c)
	if e != api.OK {
		t.Fatalf("%+v: %v", c, e)
	}
	return s
}

// readBack holds a right circuit against what is read of its texts, and its header and its end against these.
func readBack(t *testing.T, c api.Circuit) {
	t.Helper()
	s, b := told(t, print.Text, c), binaryOf(t, c)
	readAs(t, ascii.Read, s, c)
	readAs(t, binary.Either, s, c)
	readAs(t, binary.Read, told(t, print.Bytes, b), b)
	readAs(t, binary.Read, told(t, print.Either, c), b)
	readAs(t, binary.Either, told(t, print.Either, c), b)
	end, e := print.Tail(c.Symbols, c.Comments)
	if e != api.OK || s[len(s)-len(end):] != end {
		t.Fatalf("%s: %s, %v", samples.Short(s), samples.Short(end), e)
	}
	symbols, comments, f := ascii.Tail(end, 0)
	if f != (api.Fault{}) || !slices.Equal(symbols, c.Symbols) || !slices.Equal(comments, c.Comments) {
		t.Fatalf("%s: %v, %q, %v", samples.Short(end), symbols, comments, f)
	}
	for word, text := range map[string]string{"aag": s, "aig": told(t, print.Bytes, b)} {
		of := c
		if word == "aig" {
			of = b
		}
		line, e := print.Head(word, of)
		w, counts, at, f := ascii.Head(line)
		_, whole, _, _ := ascii.Head(text)
		if e != api.OK || f != (api.Fault{}) || w != word || at != len(line) || line != text[:at] || !slices.Equal(counts, whole) {
			t.Fatalf("%s: %q, %v", samples.Short(text), line, e)
		}
	}
}

// 6.4 (W5): layers 4 and 5 read of a text the circuit of which it tells, of a header its counts, of an end its symbols and comments.
func TestReadBack(t *testing.T) {
	for _, c := range []api.Circuit{{}, {Max: 7}, {Max: api.MaxVar}, samples.Right(), ordered(), inputs(api.MaxItems), commented(api.MaxText), commented(api.MaxText, "", "c")} {
		readBack(t, c)
	}
	for _, x := range allCounts() {
		readBack(t, x.c)
	}
	r := rand.New(rand.NewSource(64))
	for range 3000 {
		readBack(t, samples.Circuit(r.Intn))
	}
	for _, c := range []api.Circuit{latchesOf(api.MaxItems), gatesOf(api.MaxItems)} {
		readAs(t, binary.Read, told(t, print.Bytes, c), c)
	}
}

// 6.4: layer 4 reads of an end its symbols and comments, also those that no circuit has.
func TestTailReadBack(t *testing.T) {
	for _, x := range append(endings(),
		ending{one('i', api.MaxItems-1, "\x00"), []string{"\r"}, ""},
		ending{[]api.Symbol{{Kind: 'c', Name: " c"}, {Kind: 'c', Name: "\t" + x(9999)}}, []string{"c", "i0 x", ""}, ""},
		ending{nil, make([]string, api.MaxItems), ""},
	) {
		s, e := print.Tail(x.symbols, x.comments)
		for _, ahead := range []string{"", "c", "c\n", "aag 0 0 0 0 0\n"} {
			symbols, comments, f := ascii.Tail(ahead+s, len(ahead))
			if e != api.OK || f != (api.Fault{}) || !slices.Equal(symbols, x.symbols) || !slices.Equal(comments, x.comments) {
				t.Fatalf("%s: %v, %q, %v", samples.Short(s), symbols, comments, f)
			}
		}
	}
}

// 6.4: the text of what was read of a text, however that told it, is read as the same again, and stays as it is; it is no longer.
func TestTextsStay(t *testing.T) {
	r := rand.New(rand.NewSource(65))
	for range 3000 {
		c := samples.Circuit(r.Intn)
		b := binaryOf(t, c)
		for s, call := range map[string]printer{samples.Text(c, r.Intn): print.Text, samples.Text(b, r.Intn): print.Text, samples.Bytes(b, r.Intn): print.Bytes} {
			read, f := binary.Either(s)
			if f != (api.Fault{}) {
				t.Fatalf("%s: %v", samples.Short(s), f)
			}
			first := told(t, call, read)
			readAs(t, binary.Either, first, read)
			again, _ := binary.Either(first)
			if second := told(t, call, again); second != first || len(first) > len(s) {
				t.Fatalf("%s, then %s, then %s", samples.Short(s), samples.Short(first), samples.Short(second))
			}
		}
		// In the order of the binary format a circuit stays, too.
		in := told(t, print.Either, c)
		if again := told(t, print.Either, b); again != in {
			t.Fatalf("%s, then %s", samples.Short(in), samples.Short(again))
		}
	}
}

// 6.4: so it is of texts that are changed, as long as they are read.
func TestChangedTextsStay(t *testing.T) {
	r := rand.New(rand.NewSource(66))
	read := 0
	for range 20000 {
		c := samples.Circuit(r.Intn)
		s := samples.Changed(samples.Text(c, r.Intn), "\n 0123456789c", r.Intn)
		if r.Intn(2) == 0 {
			s = samples.Changed(samples.Bytes(binaryOf(t, c), r.Intn), "\n 01\x00\x01\x02c", r.Intn)
		}
		c, f := binary.Either(s)
		if f.Code != api.OK {
			continue
		}
		read++
		readBack(t, c)
		if s[:3] == "aag" && len(told(t, print.Text, c)) > len(s) {
			t.Fatalf("%s is longer told", samples.Short(s))
		}
	}
	if read < 4000 {
		t.Errorf("but %d were read", read)
	}
}
