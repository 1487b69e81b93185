package words_test

import (
	"slices"
	"testing"

	"trestle/api"
	"trestle/words"
)

// ofWords is the calls that answer words of words.
func ofWords(n int) map[string]func(a, b []uint64) []uint64 {
	return map[string]func(a, b []uint64) []uint64{
		"Shift by 0":  func(a, b []uint64) []uint64 { w, _ := words.Shift(a, n, 0); return w },
		"Shift by 1":  func(a, b []uint64) []uint64 { w, _ := words.Shift(a, n, 1); return w },
		"Shift by -1": func(a, b []uint64) []uint64 { w, _ := words.Shift(a, n, -1); return w },
		"Meet":        func(a, b []uint64) []uint64 { w, _ := words.Meet(a, b); return w },
		"Differ":      func(a, b []uint64) []uint64 { w, _ := words.Differ(a, b); return w },
		"Unpack":      func(a, b []uint64) []uint64 { words.Unpack(a, n); return nil },
		"Ones":        func(a, b []uint64) []uint64 { words.Ones(a); return nil },
	}
}

// R4, R7: words that are handed in are not changed, spare room too; an answer shares no memory with them, nor with another answer.
func TestMemoryOfWords(t *testing.T) {
	for _, x := range []struct {
		a, b []uint64
		n    int
	}{
		{[]uint64{5}, []uint64{3}, 3}, {[]uint64{1 << 63, 1}, []uint64{7, 0}, 65}, {[]uint64{5}, []uint64{3}, 2}, {[]uint64{5}, nil, 3}, {nil, nil, 0},
		{[]uint64{5}, []uint64{3}, -1},
	} {
		for name, ask := range ofWords(x.n) {
			a, b := guarded(x.a, 77), guarded(x.b, 77)
			first, second := ask(a, b), ask(a, b)
			kept := slices.Clone(first)
			spoil(second, 99)
			if !slices.Equal(first, kept) {
				t.Errorf("%s: two answers share memory", name)
			}
			untouched(t, name, a, x.a, 77)
			untouched(t, name, b, x.b, 77)
			if third := ask(a, b); !slices.Equal(third, kept) {
				t.Errorf("%s: %x, then %x", name, kept, third)
			}
			spoil(a, 99)
			spoil(b, 99)
			if !slices.Equal(first, kept) {
				t.Errorf("%s: the answer shares memory with an argument", name)
			}
			if ask(first, first); !slices.Equal(first, kept) {
				t.Errorf("%s: changes its argument", name)
			}
		}
	}
}

// R4: bits that are handed in are not changed, nor what lies behind them read; answers of bits share no memory.
func TestMemoryOfBits(t *testing.T) {
	bits := guarded([]bool{true, false, true}, true)
	w, e := words.Pack(bits)
	index, f := words.Index(bits)
	s, g := words.Text(bits)
	if !slices.Equal(w, []uint64{5}) || index != 5 || s != "101" || e != api.OK || f != api.OK || g != api.OK {
		t.Error(w, e, index, f, s, g)
	}
	untouched(t, "bits", bits, []bool{true, false, true}, true)
	for name, ask := range map[string]func() []bool{
		"Unpack": func() []bool { r, _ := words.Unpack([]uint64{5}, 3); return r },
		"Bits":   func() []bool { r, _ := words.Bits("101"); return r },
		"Row":    func() []bool { r, _ := words.Row(5, 3); return r },
	} {
		first, second := ask(), ask()
		spoil(second, false)
		if !slices.Equal(first, []bool{true, false, true}) {
			t.Errorf("%s: two answers share memory: %v", name, first)
		}
	}
	whole := []uint64{5, 9}
	if row, e := words.Unpack(whole[:1], 3); !slices.Equal(row, []bool{true, false, true}) || e != api.OK {
		t.Error(row, e)
	}
	if row, e := words.Unpack(whole[:1], 66); len(row) != 0 || e != api.ErrShape {
		t.Error(row, e)
	}
	if n := words.Ones(whole[:1]); n != 2 {
		t.Error(n)
	}
}
