package hash_test

import (
	"math"
	"testing"

	"trestle/api"
	"trestle/hash"
)

// numbered holds all inputs and latches of a builder, and some that it has not, against the chapter's words.
func numbered(t *testing.T, b *hash.Builder, inputs, latches int) {
	t.Helper()
	for i := range inputs {
		if l, e := b.Input(i); l != 2*(i+1) || e != api.OK {
			t.Fatalf("the input %d of %d: %d, %v", i, inputs, l, e)
		}
	}
	for i := range latches {
		if l, e := b.Latch(i); l != 2*(inputs+i+1) || e != api.OK {
			t.Fatalf("the latch %d of %d behind %d: %d, %v", i, latches, inputs, l, e)
		}
	}
	for _, i := range []int{math.MinInt, -api.MaxVar, -2, -1, 0, 1, inputs, inputs + 1, latches, latches + 1, inputs + latches, api.MaxItems - 1, api.MaxItems, math.MaxInt} {
		if l, e := b.Input(i); (i < 0 || i >= inputs) && (l != 0 || e != api.ErrNone) {
			t.Fatalf("the input %d of %d: %d, %v", i, inputs, l, e)
		}
		if l, e := b.Latch(i); (i < 0 || i >= latches) && (l != 0 || e != api.ErrNone) {
			t.Fatalf("the latch %d of %d: %d, %v", i, latches, l, e)
		}
	}
}

// 9.1: builders of nothing, of little, of one kind alone, and of as much as there may be: their inputs and latches are numbered, and there are no gates.
func TestNew(t *testing.T) {
	const half = api.MaxVar / 2
	for _, x := range [][2]int{
		{0, 0}, {1, 0}, {0, 1}, {1, 1}, {2, 1}, {1, 2}, {3, 4}, {64, 65}, {half, half}, {half - 1, half}, {1, api.MaxVar - 1}, {api.MaxVar - 1, 1},
		{api.MaxItems, 0}, {0, api.MaxItems}, {api.MaxItems - 1, 0}, {0, api.MaxItems - 1},
	} {
		b := begin(t, x[0], x[1])
		hasGates(t, b, 0)
		numbered(t, b, x[0], x[1])
	}
}

// 9.1, R5: numbers of inputs and latches that may not be, one of them or both, and both together: there is no builder.
func TestNewOfWrongNumbers(t *testing.T) {
	wrong := func(inputs, latches int) {
		t.Helper()
		if b, e := hash.New(inputs, latches); b != nil || e != api.ErrRange {
			t.Errorf("New(%d, %d): %v, %v", inputs, latches, b, e)
		}
	}
	none := []int{-1, -2, -api.MaxItems, math.MinInt, math.MinInt + 1, api.MaxItems + 1, api.MaxItems + 2, 2 * api.MaxItems, 1 << 32, math.MaxInt - 1, math.MaxInt}
	for _, n := range none {
		for _, k := range []int{0, 1, 2, api.MaxItems} {
			wrong(n, k)
			wrong(k, n)
		}
		for _, k := range none {
			wrong(n, k)
		}
	}
	for _, n := range []int{1, 2, api.MaxVar / 2, api.MaxVar - 1, api.MaxVar} {
		wrong(n, api.MaxVar-n+1)
		wrong(api.MaxVar-n+1, n)
		wrong(n, api.MaxVar)
		wrong(api.MaxVar, n)
	}
}

// 9.1: gates that are made change no number of an input or a latch; Size and Gates tell of each one, in order.
func TestNumbersBehindGates(t *testing.T) {
	b := begin(t, 2, 3)
	var want [][2]int
	for l := 12; l <= 40; l += 2 {
		if _, e := b.And(l-1, l-4); e != api.OK {
			t.Fatal(e)
		}
		want = append(want, [2]int{l - 1, l - 4})
		hasGates(t, b, 12, want...)
		numbered(t, b, 2, 3)
	}
}

// 9.1: calls that are refused, or make no gate, are to be told neither from Size nor from Gates.
func TestSizeWithoutGates(t *testing.T) {
	b := begin(t, 1, 1)
	b.Input(1)
	b.Latch(-1)
	b.And(2, 6)
	b.And(2, 3)
	b.Mux(2, 4, 6)
	hasGates(t, b, 0)
}
