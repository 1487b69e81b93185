package hash_test

import (
	"math"
	"testing"

	"trestle/api"
)

// 9.2: the first example of the chapter, in its order.
func TestExample(t *testing.T) {
	b := begin(t, 2, 0)
	if l, e := b.Input(1); l != 4 || e != api.OK {
		t.Errorf("%d, %v", l, e)
	}
	makes(t, b, 6, 1, "And", 4, 2)
	makes(t, b, 6, 1, "And", 2, 4)
	makes(t, b, 0, 1, "And", 2, 3)
	makes(t, b, 2, 1, "And", 2, 1)
	makes(t, b, 10, 3, "Xor", 2, 4)
	makes(t, b, 9, 3, "Or", 2, 4)
	hasGates(t, b, 6, [2]int{4, 2}, [2]int{5, 3}, [2]int{9, 7})
}

// 9.2: 0 and 1 with each literal, each literal with itself and with its negation, of an input, a latch and a gate: told in either order there is no gate.
func TestTrivialAnds(t *testing.T) {
	b := begin(t, 1, 1)
	makes(t, b, 6, 1, "And", 2, 5)
	for l := range 8 {
		makes(t, b, 0, 1, "And", l, 0)
		makes(t, b, 0, 1, "And", 0, l)
		makes(t, b, l, 1, "And", l, 1)
		makes(t, b, l, 1, "And", 1, l)
		makes(t, b, l, 1, "And", l, l)
		makes(t, b, 0, 1, "And", l, not(l))
	}
	empty := begin(t, 0, 0)
	for n := range 4 {
		makes(t, empty, n/2*(n%2), 0, "And", n/2, n%2)
	}
}

// 9.2: all that are not: each pair is a gate of its own, the greater literal as Left, in whichever order it is told, and there is but one of it.
func TestAnds(t *testing.T) {
	for greaterFirst := range 2 {
		b := begin(t, 2, 2)
		var want [][2]int
		for x := 2; x < 10; x++ {
			for y := 2; y < x; y++ {
				if y == not(x) {
					continue
				}
				want = append(want, [2]int{x, y})
				out := 8 + 2*len(want)
				two := []int{x, y}
				for range 2 {
					makes(t, b, out, len(want), "And", two[greaterFirst], two[1-greaterFirst])
					makes(t, b, out, len(want), "And", two[1-greaterFirst], two[greaterFirst])
				}
			}
		}
		hasGates(t, b, 10, want...)
		for i, g := range want {
			makes(t, b, 10+2*i, len(want), "And", g[0], g[1])
		}
	}
}

// 9.2: gates of gates, negated or not; Or of the same literals is none of their And.
func TestGatesOfGates(t *testing.T) {
	b := begin(t, 3, 0)
	makes(t, b, 8, 1, "And", 2, 4)
	makes(t, b, 10, 2, "And", 6, 8)
	makes(t, b, 12, 3, "And", 9, 11)
	makes(t, b, 14, 4, "And", 8, 11)
	makes(t, b, 17, 5, "Or", 8, 11)
	makes(t, b, 16, 5, "And", 10, 9)
	makes(t, b, 0, 5, "And", 16, 17)
	hasGates(t, b, 8, [2]int{4, 2}, [2]int{8, 6}, [2]int{11, 9}, [2]int{11, 8}, [2]int{10, 9})
}

// 9.2: Or, of constants too, of literals that are the same or each other's negation, and again.
func TestOr(t *testing.T) {
	b := begin(t, 2, 1)
	for l := range 8 {
		makes(t, b, l, 0, "Or", l, 0)
		makes(t, b, l, 0, "Or", 0, l)
		makes(t, b, 1, 0, "Or", l, 1)
		makes(t, b, 1, 0, "Or", 1, l)
		makes(t, b, l, 0, "Or", l, l)
		makes(t, b, 1, 0, "Or", l, not(l))
	}
	makes(t, b, 9, 1, "Or", 2, 4)
	makes(t, b, 9, 1, "Or", 4, 2)
	makes(t, b, 8, 1, "And", 3, 5)
	makes(t, b, 11, 2, "Or", 5, 3)
	makes(t, b, 10, 2, "And", 2, 4)
	makes(t, b, 13, 3, "Or", 9, 6)
	hasGates(t, b, 8, [2]int{5, 3}, [2]int{4, 2}, [2]int{8, 7})
}

// 9.2: Xor: three gates, of which a part or all may be there; both literals negated are the same, one negated is another one.
func TestXor(t *testing.T) {
	b := begin(t, 2, 1)
	for l := range 8 {
		makes(t, b, l, 0, "Xor", l, 0)
		makes(t, b, l, 0, "Xor", 0, l)
		makes(t, b, not(l), 0, "Xor", l, 1)
		makes(t, b, not(l), 0, "Xor", 1, l)
		makes(t, b, 0, 0, "Xor", l, l)
		makes(t, b, 1, 0, "Xor", l, not(l))
	}
	makes(t, b, 12, 3, "Xor", 2, 4)
	hasGates(t, b, 8, [2]int{4, 2}, [2]int{5, 3}, [2]int{11, 9})
	makes(t, b, 12, 3, "Xor", 4, 2)
	makes(t, b, 12, 3, "Xor", 5, 3)
	makes(t, b, 18, 6, "Xor", 3, 4) // which is no negation of 12
	hasGates(t, b, 8, [2]int{4, 2}, [2]int{5, 3}, [2]int{11, 9}, [2]int{4, 3}, [2]int{5, 2}, [2]int{17, 15})
	makes(t, b, 20, 7, "And", 2, 6)
	makes(t, b, 24, 9, "Xor", 6, 2) // the first one is there
	makes(t, b, 27, 10, "Or", 4, 6)
	makes(t, b, 30, 12, "Xor", 6, 4) // the second one is there
	hasGates(t, b, 8, [2]int{4, 2}, [2]int{5, 3}, [2]int{11, 9}, [2]int{4, 3}, [2]int{5, 2}, [2]int{17, 15}, [2]int{6, 2}, [2]int{7, 3}, [2]int{23, 21}, [2]int{7, 5}, [2]int{6, 4}, [2]int{29, 27})
}

// 9.2: Mux: three gates, of which a part or all may be there.
func TestMux(t *testing.T) {
	b := begin(t, 2, 1)
	makes(t, b, 13, 3, "Mux", 2, 4, 6)
	hasGates(t, b, 8, [2]int{4, 2}, [2]int{6, 3}, [2]int{11, 9})
	makes(t, b, 13, 3, "Mux", 2, 4, 6)
	makes(t, b, 13, 3, "Mux", 3, 6, 4)
	makes(t, b, 12, 3, "And", 9, 11)
	makes(t, b, 17, 5, "Mux", 2, 4, 7) // the first one is there
	makes(t, b, 21, 7, "Mux", 2, 5, 6) // the second one is there
	hasGates(t, b, 8, [2]int{4, 2}, [2]int{6, 3}, [2]int{11, 9}, [2]int{7, 3}, [2]int{15, 9}, [2]int{5, 2}, [2]int{19, 11})
	makes(t, b, 23, 8, "Mux", 2, 5, 7) // both are there
	makes(t, b, 22, 8, "And", 15, 19)
}

// 9.2: Mux of constants, and of literals that come twice: what is made of the two conjunctions, and no more.
func TestTrivialMux(t *testing.T) {
	b := begin(t, 1, 1)
	for x := range 6 {
		for y := range 6 {
			makes(t, b, x, 0, "Mux", 1, x, y)
			makes(t, b, y, 0, "Mux", 0, x, y)
		}
		makes(t, b, x, 0, "Mux", x, 1, 0)
		makes(t, b, not(x), 0, "Mux", x, 0, 1)
		makes(t, b, 1, 0, "Mux", x, 1, 1)
		makes(t, b, 0, 0, "Mux", x, 0, 0)
		makes(t, b, x, 0, "Mux", x, x, 0)
		makes(t, b, 1, 0, "Mux", x, x, not(x))
	}
	makes(t, b, 6, 1, "Mux", 2, 4, 0)
	makes(t, b, 8, 2, "Mux", 2, 0, 4)
	makes(t, b, 11, 3, "Mux", 2, 4, 4) // it is 4, but the gates are made
	makes(t, b, 13, 4, "Mux", 2, 4, 1)
	makes(t, b, 15, 5, "Mux", 2, 2, 4)
	hasGates(t, b, 6, [2]int{4, 2}, [2]int{4, 3}, [2]int{9, 7}, [2]int{7, 2}, [2]int{9, 3})
}

// 9.2: each call with all literals, of builders of some inputs, latches and gates, and behind each one all others of two literals.
func TestAllCalls(t *testing.T) {
	for _, first := range calls() {
		for _, lits := range allLiterals(first.takes, 6) {
			start := beginBoth(t, 1, 1)
			start.agree(t, first, lits...)
			last := 2*start.want.variables() + 1
			for _, second := range calls()[:3] {
				for _, more := range allLiterals(second.takes, last+1) {
					x := beginBoth(t, 1, 1)
					x.agree(t, first, lits...)
					x.agree(t, second, more...)
				}
			}
		}
	}
}

// 9.2, R2: a literal that the builder has not, in each place, beside others that it has or has not: no gate is made.
func TestWrongLiterals(t *testing.T) {
	b := begin(t, 2, 1)
	makes(t, b, 8, 1, "And", 2, 5)
	wrong := []int{-1, -2, -9, 10, 11, 12, 2*api.MaxVar + 1, 2*api.MaxVar + 2, math.MaxInt, math.MaxInt - 1, math.MinInt, math.MinInt + 1}
	for _, c := range calls() {
		for _, right := range allLiterals(c.takes, 10) {
			for at := range right {
				was := right[at]
				for _, l := range wrong {
					right[at] = l
					refuses(t, b, api.ErrNone, 1, c.name, right...)
				}
				right[at] = was
			}
		}
		for _, l := range wrong {
			for _, k := range wrong {
				refuses(t, b, api.ErrNone, 1, c.name, []int{l, k, l}[:c.takes]...)
				refuses(t, b, api.ErrNone, 1, c.name, []int{k, 1, l}[:c.takes]...)
			}
		}
	}
	hasGates(t, b, 8, [2]int{5, 2})
	// What the next gate is, is a literal when that is made.
	makes(t, b, 10, 2, "And", 9, 4)
	makes(t, b, 12, 3, "And", 11, 3)
	refuses(t, b, api.ErrNone, 3, "And", 14, 2)
	// Of nothing there are 0 and 1.
	empty := begin(t, 0, 0)
	makes(t, empty, 1, 0, "Mux", 0, 0, 1)
	refuses(t, empty, api.ErrNone, 0, "And", 2, 0)
	refuses(t, empty, api.ErrNone, 0, "Mux", 0, 3, 1)
}
