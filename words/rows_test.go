package words_test

import (
	"math"
	"slices"
	"strings"
	"testing"

	"trestle/api"
	"trestle/words"
)

// 2.3: the chapter's examples.
func TestRowsByExample(t *testing.T) {
	if w, e := words.Pack([]bool{true, false, true}); !slices.Equal(w, []uint64{5}) || e != api.OK {
		t.Error(w, e)
	}
	if bits, e := words.Unpack([]uint64{5}, 3); !slices.Equal(bits, []bool{true, false, true}) || e != api.OK {
		t.Error(bits, e)
	}
	if s, e := words.Text([]bool{true, false, false}); s != "100" || e != api.OK {
		t.Error(s, e)
	}
	if bits, f := words.Bits("100"); !slices.Equal(bits, []bool{true, false, false}) || f != (api.Fault{}) {
		t.Error(bits, f)
	}
}

// sameRow holds the four calls of a row against the chapter's words.
func sameRow(t *testing.T, bits []bool) {
	t.Helper()
	w, e := words.Pack(bits)
	if !slices.Equal(w, packed(bits)) || e != api.OK {
		t.Fatalf("Pack of %d bits: %x, %v, want %x", len(bits), w, e, packed(bits))
	}
	if back, e := words.Unpack(w, len(bits)); !slices.Equal(back, bits) || e != api.OK {
		t.Fatalf("Unpack of %d bits: %v, %v", len(bits), back, e)
	}
	s, e := words.Text(bits)
	if e != api.OK || len(s) != len(bits) {
		t.Fatalf("Text of %d bits: %q, %v", len(bits), s, e)
	}
	for i, bit := range bits {
		if (s[i] == '1') != bit || s[i] != '0' && s[i] != '1' {
			t.Fatalf("Text of %d bits: the byte %d is %q", len(bits), i, s[i])
		}
	}
	if back, f := words.Bits(s); !slices.Equal(back, bits) || f != (api.Fault{}) {
		t.Fatalf("Bits of %d bits: %v, %v", len(bits), back, f)
	}
}

// 2.3, 2.6: Pack and Unpack, Text and Bits, of short rows, about a word's end, and of the longest row.
func TestRowsLeadBack(t *testing.T) {
	for n := range 9 {
		for _, bits := range rows(n) {
			sameRow(t, bits)
		}
	}
	for _, n := range lengths {
		for _, bits := range some(n) {
			sameRow(t, bits)
		}
	}
	sameRow(t, nil)
}

// 2.3: each single bit stands in its word, at its place.
func TestSingleBits(t *testing.T) {
	for i := range 130 {
		bits := make([]bool, 130)
		bits[i] = true
		want := make([]uint64, 3)
		want[i/64] = 1 << (i % 64)
		if w, e := words.Pack(bits); !slices.Equal(w, want) || e != api.OK {
			t.Errorf("Pack of the bit %d: %x, %v", i, w, e)
		}
		if back, e := words.Unpack(want, 130); !slices.Equal(back, bits) || e != api.OK {
			t.Errorf("Unpack of the bit %d: %v, %v", i, back, e)
		}
	}
}

// 2.3: rows and texts of one bit more than may be; a text's length goes ahead of its bytes.
func TestRowsThatAreTooLong(t *testing.T) {
	for _, n := range []int{api.MaxBits + 1, api.MaxBits + 64, 2 * api.MaxBits} {
		bits := make([]bool, n)
		if w, e := words.Pack(bits); len(w) != 0 || e != api.ErrLong {
			t.Errorf("Pack of %d bits: %d words, %v", n, len(w), e)
		}
		if s, e := words.Text(bits); s != "" || e != api.ErrLong {
			t.Errorf("Text of %d bits: %d bytes, %v", n, len(s), e)
		}
		for _, s := range []string{strings.Repeat("0", n), strings.Repeat("x", n), strings.Repeat("1", n-1) + "x"} {
			if bits, f := words.Bits(s); len(bits) != 0 || f != (api.Fault{Code: api.ErrLong}) {
				t.Errorf("Bits of %d bytes: %d bits, %v", n, len(bits), f)
			}
		}
	}
}

// wrongRow is words and a length that Unpack and Shift refuse.
type wrongRow struct {
	w    []uint64
	n    int
	want api.Errno
}

// wrongRows is such rows; the length goes ahead of the words.
func wrongRows() []wrongRow {
	var out []wrongRow
	for _, n := range noLengths {
		for _, w := range [][]uint64{nil, {0}, {5}, {math.MaxUint64}, make([]uint64, api.MaxBits/64+1), make([]uint64, api.MaxItems+1)} {
			out = append(out, wrongRow{w, n, api.ErrRange})
		}
	}
	for _, n := range lengths {
		count := (n + 63) / 64
		for _, other := range []int{0, 1, count - 1, count + 1, api.MaxBits/64 + 1, api.MaxItems, api.MaxItems + 1} {
			if other >= 0 && other != count {
				out = append(out, wrongRow{make([]uint64, other), n, api.ErrShape})
			}
		}
		for i := n; i < 64*count; i++ {
			w := make([]uint64, count)
			w[i/64] = 1 << (i % 64)
			out = append(out, wrongRow{w, n, api.ErrShape})
			full := packed(some(n)[1])
			full[i/64] |= 1 << (i % 64)
			out = append(out, wrongRow{full, n, api.ErrShape})
		}
	}
	return out
}

// 2.3: lengths that no row has, words that are too few or too many, and bits behind the row.
func TestUnpackOfWrongRows(t *testing.T) {
	for _, x := range wrongRows() {
		if bits, e := words.Unpack(x.w, x.n); len(bits) != 0 || e != x.want {
			t.Fatalf("Unpack of %d words, %d bits: %d bits, %v, want %v", len(x.w), x.n, len(bits), e, x.want)
		}
	}
	if bits, e := words.Unpack([]uint64{8}, 3); len(bits) != 0 || e != api.ErrShape {
		t.Error(bits, e)
	}
}

// 2.3: each byte that is no bit, wherever it stands; the first one of several.
func TestBytesThatAreNoBits(t *testing.T) {
	for b := range 256 {
		if b == '0' || b == '1' {
			continue
		}
		for _, ahead := range []string{"", "0", "0110", strings.Repeat("1", 70)} {
			for _, behind := range []string{"", "1", "x", "0\xff"} {
				s := ahead + string([]byte{byte(b)}) + behind
				if bits, f := words.Bits(s); len(bits) != 0 || f != (api.Fault{At: len(ahead), Code: api.ErrBit}) {
					t.Errorf("Bits(%q) = %v, %v", s, bits, f)
				}
			}
		}
	}
	s := strings.Repeat("0", api.MaxBits-1) + "2"
	if bits, f := words.Bits(s); len(bits) != 0 || f != (api.Fault{At: api.MaxBits - 1, Code: api.ErrBit}) {
		t.Error(len(bits), f)
	}
}

// 2.5: the chapter's examples.
func TestIndexByExample(t *testing.T) {
	if n, e := words.Index([]bool{false, true, true}); n != 6 || e != api.OK {
		t.Error(n, e)
	}
	if bits, e := words.Row(6, 3); !slices.Equal(bits, []bool{false, true, true}) || e != api.OK {
		t.Error(bits, e)
	}
	if bits, e := words.Row(8, 3); len(bits) != 0 || e != api.ErrRange {
		t.Error(bits, e)
	}
}

// 2.5, 2.6: Index and Row lead back, of rows of each length that may be.
func TestIndexAndRowLeadBack(t *testing.T) {
	for n := range 63 {
		list := some(n)
		if n < 9 {
			list = append(list, rows(n)...)
		}
		for _, bits := range list {
			want := 0
			for i, bit := range bits {
				if bit {
					want += 1 << i
				}
			}
			if index, e := words.Index(bits); index != want || e != api.OK {
				t.Fatalf("Index(%v) = %d, %v, want %d", bits, index, e, want)
			}
			if back, e := words.Row(want, n); !slices.Equal(back, bits) || e != api.OK {
				t.Fatalf("Row(%d, %d) = %v, %v, want %v", want, n, back, e, bits)
			}
		}
	}
}

// 2.5: 62 bits are a number, 63 are none.
func TestIndexAtTheLimit(t *testing.T) {
	if index, e := words.Index(some(62)[1]); index != 1<<62-1 || e != api.OK {
		t.Error(index, e)
	}
	for _, n := range []int{63, 64, 65, api.MaxBits, api.MaxItems + 1} {
		if index, e := words.Index(make([]bool, n)); index != 0 || e != api.ErrLong {
			t.Errorf("Index of %d bits: %d, %v", n, index, e)
		}
	}
	if index, e := words.Index(nil); index != 0 || e != api.OK {
		t.Error(index, e)
	}
}

// 2.5: lengths that are none, and numbers that no row of so many bits has.
func TestRowOfWrongNumbers(t *testing.T) {
	for _, n := range []int{-1, 63, 64, 65, math.MinInt, math.MaxInt, -64} {
		for _, index := range []int{0, 1, -1, math.MaxInt, math.MinInt} {
			if bits, e := words.Row(index, n); len(bits) != 0 || e != api.ErrRange {
				t.Errorf("Row(%d, %d) = %v, %v", index, n, bits, e)
			}
		}
	}
	for n := range 63 {
		for _, index := range []int{-1, 1 << n, 1<<n + 1, math.MaxInt, math.MinInt, -1 << n} {
			if bits, e := words.Row(index, n); len(bits) != 0 || e != api.ErrRange {
				t.Errorf("Row(%d, %d) = %v, %v", index, n, bits, e)
			}
		}
		if bits, e := words.Row(1<<n-1, n); !slices.Equal(bits, some(n)[1]) || e != api.OK {
			t.Errorf("Row(%d, %d) = %v, %v", 1<<n-1, n, bits, e)
		}
	}
}
