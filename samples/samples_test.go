package samples_test

import (
	"math/rand"
	"testing"

	"trestle/api"
	"trestle/ascii"
	"trestle/binary"
	"trestle/samples"
	"trestle/shape"
	"trestle/words"
)

// Circuits by chance are right, the same ones by the same picks; each list has something in some of them, and nothing in others.
func TestCircuit(t *testing.T) {
	const n = 500
	r, again := rand.New(rand.NewSource(1)), rand.New(rand.NewSource(1))
	var some [10]int
	for range n {
		c := samples.Circuit(r.Intn)
		if at, e := shape.Check(c); e != api.OK {
			t.Fatalf("%+v: %d, %v", c, at, e)
		}
		if d := samples.Circuit(again.Intn); !shape.Same(c, d) {
			t.Fatalf("%+v, then %+v", c, d)
		}
		for i, l := range [...]int{
			len(c.Inputs), len(c.Latches), len(c.Outputs), len(c.Bads), len(c.Constraints), len(c.Justice), len(c.Fairness), len(c.Ands), len(c.Symbols), len(c.Comments),
		} {
			if l > 0 {
				some[i]++
			}
		}
	}
	for i, k := range some {
		if k < n/4 || k > n-10 {
			t.Errorf("the list %d has something in %d of %d", i, k, n)
		}
	}
}

// Texts in both formats are read as the circuit of which they tell, whatever is left out.
func TestTexts(t *testing.T) {
	r := rand.New(rand.NewSource(2))
	for range 500 {
		c := samples.Circuit(r.Intn)
		s := samples.Text(c, r.Intn)
		if d, f := ascii.Read(s); f != (api.Fault{}) || !shape.Same(c, d) {
			t.Fatalf("%s: %+v, %v, want %+v", samples.Short(s), d, f, c)
		}
		c, _, _ = shape.Renumber(c)
		s = samples.Bytes(c, r.Intn)
		if d, f := binary.Read(s); f != (api.Fault{}) || !shape.Same(c, d) {
			t.Fatalf("%s: %+v, %v, want %+v", samples.Short(s), d, f, c)
		}
	}
}

// A number's groups are those of layer 2.
func TestGroups(t *testing.T) {
	for bits := range 32 {
		for _, n := range [...]int{1<<bits - 1, 1 << bits, 1<<bits + 1} {
			if want, e := words.Put(n); e == api.OK && samples.Groups(n) != want {
				t.Errorf("%d: %q, want %q", n, samples.Groups(n), want)
			}
		}
	}
}

// A line that is right is none of the wrong ones; a changed text is often another one.
func TestChanges(t *testing.T) {
	r := rand.New(rand.NewSource(3))
	for _, s := range []string{"3", "2 3", "6 4 2"} {
		for _, wrong := range samples.WrongLines(s) {
			if wrong == s {
				t.Errorf("%q is not wrong", s)
			}
		}
		changed := 0
		for range 1000 {
			if samples.Changed(s+"\n1\n", "\n 0", r.Intn) != s+"\n1\n" {
				changed++
			}
		}
		if changed < 500 {
			t.Errorf("%q was changed but %d times", s, changed)
		}
	}
}
