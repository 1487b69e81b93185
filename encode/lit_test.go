package encode_test

import (
	"math"
	"math/rand"
	"testing"

	"trestle/api"
	"trestle/encode"
	"trestle/samples"
)

// 15.1: the chapter's examples, and each literal of their circuit.
func TestLitByExample(t *testing.T) {
	for l, want := range []int{1, -1, 2, -2, 3, -3, 4, -4} {
		literal(t, example(), l, want)
	}
}

// 15.1: circuits of no variable, of no gate, and of variables that nothing defines have the literals up to 2 Max + 1, and none besides.
func TestLitOfBareCircuits(t *testing.T) {
	for _, most := range []int{0, 1, 2, 3, 100, api.MaxVar - 1, api.MaxVar} {
		c := api.Circuit{Max: most}
		literal(t, c, 0, 1)
		literal(t, c, 1, -1)
		literal(t, c, 2*most, most+1)
		literal(t, c, 2*most+1, -most-1)
		literal(t, c, most-most%2, most/2+1)
		for _, l := range []int{2*most + 2, 2*most + 3, -1, -2} {
			refuse(t, l, some("Lit"), c, given{l: l}, api.ErrRange)
		}
	}
}

// outside is numbers that are no literals of a circuit of that greatest variable.
func outside(most int) []int {
	return []int{
		-1, -2, -3, -2 * most, -2*most - 1, -2*most - 2, 2*most + 2, 2*most + 3, 4*most + 4, 2*api.MaxVar + 2, 2*api.MaxVar + 3, api.MaxNumber, math.MaxInt, math.MaxInt - 1, math.MinInt, math.MinInt + 1,
	}
}

// 15.1: numbers that are none of the circuit's literals, just outside, and far from them.
func TestLitOutside(t *testing.T) {
	for _, c := range []api.Circuit{samples.Right(), example(), stepping(), {Max: 1}} {
		for _, l := range outside(c.Max) {
			refuse(t, l, some("Lit"), c, given{l: l}, api.ErrRange)
		}
	}
}

// 15.1: of circuits by chance each literal is what layer 1 tells, whatever its variable is; the negated one is its contrary, and no two are alike.
func TestLitByChance(t *testing.T) {
	r := rand.New(rand.NewSource(161))
	for range 500 {
		c := samples.Circuit(r.Intn)
		seen := map[int]int{}
		for _, l := range samples.AllLiterals(c) {
			asWords(t, some("Lit"), c, given{l: l})
			x, _ := encode.Lit(c, l)
			y, _ := encode.Lit(c, l^1)
			if x != -y || x == 0 || max(x, -x) > c.Max+1 {
				t.Fatalf("%+v: %d is %d, negated %d", c, l, x, y)
			}
			seen[x]++
		}
		if len(seen) != 2*c.Max+2 {
			t.Fatalf("%+v: %d unlike literals", c, len(seen))
		}
	}
}
