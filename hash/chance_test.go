package hash_test

import (
	"math/rand"
	"testing"

	"trestle/api"
	"trestle/samples"
	"trestle/shape"
	"trestle/sim"
)

// some is n literals by chance, each of which a builder of so many variables has, but for one of some.
func some(n, variables int, r *rand.Rand) []int {
	out := make([]int, n)
	for i := range out {
		out[i] = r.Intn(2*variables + 2)
		if r.Intn(40) == 0 {
			out[i] = [...]int{-1, -2, 2*variables + 2, 2*variables + 3}[r.Intn(4)]
		}
	}
	return out
}

// 9.2: many calls by chance of one builder; two builders have nothing to do with each other.
func TestCallsByChance(t *testing.T) {
	r := rand.New(rand.NewSource(91))
	told := map[api.Errno]int{}
	for range 1000 {
		two := [...]both{beginBoth(t, r.Intn(5), r.Intn(5)), beginBoth(t, r.Intn(5), r.Intn(5))}
		for range 40 {
			x, c := two[r.Intn(2)], calls()[r.Intn(4)]
			_, e := x.agree(t, c, some(c.takes, x.want.variables(), r)...)
			told[e]++
		}
	}
	if len(told) != 2 || min(told[api.OK], told[api.ErrNone]) < 1000 {
		t.Errorf("%v", told)
	}
}

// circuitOf is the circuit of a builder's inputs, latches and gates.
func circuitOf(b maker, inputs, latches int) api.Circuit {
	c := api.Circuit{Max: inputs + latches + b.Size(), Ands: b.Gates()}
	for i := range inputs {
		c.Inputs = append(c.Inputs, 2*i+2)
	}
	for i := range latches {
		l := 2*(inputs+i) + 2
		c.Latches = append(c.Latches, api.Latch{Lit: l, Next: l})
	}
	return c
}

// 9.2, 9.5: by all values of inputs and latches, what And, Or, Xor and Mux make has the value that they say; the gates are a right circuit's, of the binary order, no two alike and none trivial.
func TestWhatCallsSay(t *testing.T) {
	type said struct {
		call
		lits []int
		is   int
	}
	r := rand.New(rand.NewSource(92))
	for range 1000 {
		inputs, latches := r.Intn(4), r.Intn(3)
		b := begin(t, inputs, latches)
		var all []said
		for range 12 {
			c := calls()[r.Intn(4)]
			lits := make([]int, c.takes)
			for i := range lits {
				lits[i] = r.Intn(2 * (1 + inputs + latches + b.Size()))
			}
			l, e := c.of(b, lits)
			if e != api.OK {
				t.Fatalf("%s%v: %v", c.name, lits, e)
			}
			all = append(all, said{c, lits, l})
		}
		c := circuitOf(b, inputs, latches)
		tight(t, c)
		for _, state := range samples.AllLists(latches, false, true) {
			for _, row := range samples.AllLists(inputs, false, true) {
				v, e := sim.Values(c, state, row)
				if e != api.OK {
					t.Fatalf("%+v: %v", c, e)
				}
				for _, x := range all {
					var is []bool
					for _, l := range x.lits {
						is = append(is, samples.Value(v, l))
					}
					if samples.Value(v, x.is) != x.says(is) {
						t.Fatalf("%s%v: %d, which is %v in %v by %v; %v", x.name, x.lits, x.is, samples.Value(v, x.is), state, row, c.Ands)
					}
				}
			}
		}
	}
}

// tight holds a circuit against what is so of all that a builder makes: it is right, has the binary order, no two like gates and no trivial one.
func tight(t *testing.T, c api.Circuit) {
	t.Helper()
	if ok, e := shape.IsBinary(c); !ok || e != api.OK {
		t.Fatalf("%+v: the binary order: %v, %v", c, ok, e)
	}
	seen := map[[2]int]int{}
	for i, g := range c.Ands {
		seen[[2]int{g.Left, g.Right}]++
		if g.Right < 2 || g.Left/2 == g.Right/2 || len(seen) != i+1 {
			t.Fatalf("%+v: the gate %d", c, i)
		}
	}
}
