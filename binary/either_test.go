package binary_test

import (
	"math/rand"
	"strings"
	"testing"

	"trestle/api"
	"trestle/ascii"
	"trestle/binary"
	"trestle/samples"
	"trestle/shape"
)

// either holds Either against what is wanted.
func either(t *testing.T, s string, want api.Circuit, fault api.Fault) {
	t.Helper()
	if c, f := binary.Either(s); f != fault || !shape.Same(c, want) {
		t.Fatalf("%s:\n%+v, %v, want\n%+v, %v", samples.Short(s), c, f, want, fault)
	}
}

// eitherByWord holds Either against Head, Read and layer 4's Read.
func eitherByWord(t *testing.T, s string) api.Fault {
	t.Helper()
	word, _, _, f := ascii.Head(s)
	var want api.Circuit
	switch word {
	case "aig":
		want, f = binary.Read(s)
	case "aag":
		want, f = ascii.Read(s)
	}
	either(t, s, want, f)
	return f
}

// 5.2: both words, of the same circuit, and none of them.
func TestEitherByExample(t *testing.T) {
	turns := api.Circuit{Max: 1, Latches: []api.Latch{{Lit: 2, Next: 3}}, Bads: []int{2}}
	either(t, "aig 1 0 1 0 0 1\n3\n2\n", turns, api.Fault{})
	either(t, "aag 1 0 1 0 0 1\n2 3\n2\n", turns, api.Fault{})
	and := api.Circuit{Max: 3, Inputs: []int{2, 4}, Outputs: []int{7}, Ands: []api.And{{Out: 6, Left: 4, Right: 2}}}
	either(t, "aig 3 2 0 1 1\n7\n\x02\x02", and, api.Fault{})
	either(t, "aag 3 2 0 1 1\n2\n4\n7\n6 4 2\n", and, api.Fault{})
	for _, s := range []string{"", "abc", "a", "\n", "aog 0 0 0 0 0\n", "aig", "aag", "aig 0 0 0 0\n", "aag 0 0 0 0\n", "aig 0 0 0 0 0", " aag 0 0 0 0 0\n"} {
		either(t, s, api.Circuit{}, api.Fault{Code: api.ErrHeader})
	}
}

// 5.2: what each reader refuses, with its place; M above I + L + A is right in one format alone.
func TestEitherOfWrongTexts(t *testing.T) {
	either(t, "aag 9 1 0 0 0\n8\n", api.Circuit{Max: 9, Inputs: []int{8}}, api.Fault{})
	for s, want := range map[string]api.Fault{
		"aig 9 1 0 0 0\n": {Code: api.ErrCount}, "aig 0 1 0 0 0\n": {Code: api.ErrCount}, "aag 0 1 0 0 0\n": {Code: api.ErrCount},
		"aag 1 1 0 0 0\n": {At: 14, Code: api.ErrLine}, "aag 1 1 0 0 0\n2\nx\n": {At: 16, Code: api.ErrLine}, "aag 3 2 0 0 1\n2\n4\n\x02\x02": {At: 18, Code: api.ErrLine}, "aag 1 1 0 0 0\n4\n": {Code: api.ErrLit},
		"aig 1 1 0 0 0\n2\n": {At: 14, Code: api.ErrLine}, "aig 3 2 0 0 1\n6 4 2\n": {At: 14, Code: api.ErrDelta}, "aig 3 2 0 1 1\n8\n\x02\x02": {Code: api.ErrLit},
		"aig 0 0 0 0 0\nc\n" + strings.Repeat("\n", api.MaxText): {Code: api.ErrLong}, "aag 0 0 0 0 0\nc\n" + strings.Repeat("\n", api.MaxText): {Code: api.ErrLong}, strings.Repeat("x", api.MaxText+1): {Code: api.ErrLong}, strings.Repeat("x", api.MaxText): {Code: api.ErrHeader},
	} {
		either(t, s, api.Circuit{}, want)
	}
}

// 5.2: texts of both formats by chance, with bytes and lines changed.
func TestEitherByChance(t *testing.T) {
	r := rand.New(rand.NewSource(52))
	seen := map[api.Errno]int{}
	for range 3000 {
		c := samples.Circuit(r.Intn)
		either(t, samples.Text(c, r.Intn), c, api.Fault{})
		b := binaryOf(t, c)
		either(t, samples.Text(b, r.Intn), b, api.Fault{})
		either(t, samples.Bytes(b, r.Intn), b, api.Fault{})
		for _, s := range []string{samples.Text(c, r.Intn), samples.Bytes(b, r.Intn)} {
			seen[eitherByWord(t, samples.Changed(s, "\n\n  0123456789aagi-x\xff\x80\x00\x01", r.Intn)).Code]++
			for _, word := range []string{"aig", "aag", "agg"} {
				eitherByWord(t, word+s[3:])
			}
		}
	}
	for _, e := range []api.Errno{api.OK, api.ErrHeader, api.ErrCount, api.ErrLine, api.ErrDelta, api.ErrLit} {
		if seen[e] < 10 {
			t.Errorf("%v came but %d times", e, seen[e])
		}
	}
}

// 5.3 (W5): what is read is right and has the binary order.
func TestReadIsRight(t *testing.T) {
	r := rand.New(rand.NewSource(53))
	read := 0
	for range 5000 {
		s := samples.Bytes(binaryOf(t, samples.Circuit(r.Intn)), r.Intn)
		for range r.Intn(3) {
			s = samples.Changed(s, "\n01\x00\x01\x02\x03\x04", r.Intn)
		}
		c, f := binary.Read(s)
		if f.Code != api.OK {
			continue
		}
		read++
		if at, e := shape.Check(c); e != api.OK {
			t.Fatalf("%s: %+v: %d, %v", samples.Short(s), c, at, e)
		}
		if ok, e := shape.IsBinary(c); !ok || e != api.OK {
			t.Fatalf("%s: %+v: %v, %v", samples.Short(s), c, ok, e)
		}
	}
	if read < 2000 {
		t.Errorf("but %d were read", read)
	}
}

// 5.3: a text that is one format is none of the other.
func TestOneFormatAlone(t *testing.T) {
	r := rand.New(rand.NewSource(54))
	all := []string{"aig 0 0 0 0 0\n", "aag 0 0 0 0 0\n", "aig 0 0 0 1 0\n0\n", "aag 0 0 0 1 0\n0\n", allOf()}
	for range 500 {
		c := binaryOf(t, samples.Circuit(r.Intn))
		all = append(all, samples.Text(c, r.Intn), samples.Bytes(c, r.Intn))
	}
	for _, s := range all {
		_, asText := ascii.Read(s)
		_, asBytes := binary.Read(s)
		none := api.Fault{Code: api.ErrHeader}
		if isText := strings.HasPrefix(s, "aag"); isText && (asText != (api.Fault{}) || asBytes != none) || !isText && (asText != none || asBytes != (api.Fault{})) {
			t.Fatalf("%s: %v, %v", samples.Short(s), asText, asBytes)
		}
	}
}
