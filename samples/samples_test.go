package samples_test

import (
	"math/rand"
	"testing"

	"trestle/api"
	"trestle/samples"
	"trestle/shape"
)

// Circuits by chance are right, the same ones by the same picks; each list has something in some of them, and nothing in others.
func TestCircuit(t *testing.T) {
	const n = 500
	r, again := rand.New(rand.NewSource(1)), rand.New(rand.NewSource(1))
	var some [10]int
	for range n {
		c := samples.Circuit(r.Intn)
		if at, e := shape.Check(c); e != api.OK {
			t.Fatalf("%+v: %d, %v", c, at, e)
		}
		if d := samples.Circuit(again.Intn); !shape.Same(c, d) {
			t.Fatalf("%+v, then %+v", c, d)
		}
		for i, l := range [...]int{
			len(c.Inputs), len(c.Latches), len(c.Outputs), len(c.Bads), len(c.Constraints), len(c.Justice), len(c.Fairness), len(c.Ands), len(c.Symbols), len(c.Comments),
		} {
			if l > 0 {
				some[i]++
			}
		}
	}
	for i, k := range some {
		if k < n/4 || k > n-10 {
			t.Errorf("the list %d has something in %d of %d", i, k, n)
		}
	}
}
