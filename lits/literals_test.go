package lits_test

import (
	"math"
	"testing"

	"trestle/api"
	"trestle/lits"
)

const greatest = 2*api.MaxVar + 1

// 1.1: Not and To of all circuit's literals, and 1.7: they lead back.
func TestCircuitsLiterals(t *testing.T) {
	for l := 0; l <= greatest; l++ {
		want := l + 1
		if l%2 == 1 {
			want = l - 1
		}
		n, e := lits.Not(l)
		if n != want || e != api.OK {
			t.Fatalf("Not(%d) = %d, %v, want %d", l, n, e, want)
		}
		if back, e := lits.Not(n); back != l || e != api.OK {
			t.Fatalf("Not(%d) = %d, %v, want %d", n, back, e, l)
		}
		to := l/2 + 1
		if l%2 == 1 {
			to = -to
		}
		x, e := lits.To(l)
		if x != to || e != api.OK {
			t.Fatalf("To(%d) = %d, %v, want %d", l, x, e, to)
		}
		if back, e := lits.From(x); back != l || e != api.OK {
			t.Fatalf("From(%d) = %d, %v, want %d", x, back, e, l)
		}
	}
}

// 1.1, 1.7: each literal that From takes is To of what it answers.
func TestFormulasLiterals(t *testing.T) {
	for v := 1; v <= api.MaxVar+1; v++ {
		for _, x := range []int{v, -v} {
			l, e := lits.From(x)
			if e != api.OK || l < 0 || l > greatest {
				t.Fatalf("From(%d) = %d, %v", x, l, e)
			}
			if back, e := lits.To(l); back != x || e != api.OK {
				t.Fatalf("To(%d) = %d, %v, want %d", l, back, e, x)
			}
		}
	}
}

// 1.1: the literals of the chapter's example 1, and the least and greatest ones.
func TestLiteralsByExample(t *testing.T) {
	for _, x := range []struct{ circuits, not, formulas int }{
		{4, 5, 3},
		{1, 0, -1},
		{0, 1, 1},
		{5, 4, -3},
		{2 * api.MaxVar, 2*api.MaxVar + 1, api.MaxVar + 1},
		{2*api.MaxVar + 1, 2 * api.MaxVar, -api.MaxVar - 1},
	} {
		n, e := lits.Not(x.circuits)
		to, f := lits.To(x.circuits)
		from, g := lits.From(x.formulas)
		if n != x.not || to != x.formulas || from != x.circuits || e != api.OK || f != api.OK || g != api.OK {
			t.Errorf("%v: Not %d, %v; To %d, %v; From %d, %v", x, n, e, to, f, from, g)
		}
	}
}

// 1.1: what is no literal, from just outside to as far as an int goes; beside the error stands 0.
func TestNoLiterals(t *testing.T) {
	for _, l := range []int{-1, -2, greatest + 1, greatest + 2, math.MaxInt, math.MinInt, math.MinInt + 1} {
		if n, e := lits.Not(l); n != 0 || e != api.ErrRange {
			t.Errorf("Not(%d) = %d, %v", l, n, e)
		}
		if x, e := lits.To(l); x != 0 || e != api.ErrRange {
			t.Errorf("To(%d) = %d, %v", l, x, e)
		}
	}
	far := []int{api.MaxVar + 2, -api.MaxVar - 2, api.MaxCnf, -api.MaxCnf}
	for _, x := range append(far, noLiterals...) {
		if l, e := lits.From(x); l != 0 || e != api.ErrRange {
			t.Errorf("From(%d) = %d, %v", x, l, e)
		}
	}
}
