package words_test

import (
	"math"
	"math/rand"
	"slices"
	"strings"
	"testing"

	"trestle/api"
)

// noNumbers are ints that are no numbers of this layer.
var noNumbers = []int{-1, api.MaxNumber + 1, math.MinInt, math.MaxInt, -api.MaxNumber}

// lengths are those of rows: none, about a word's end, the greatest.
var lengths = []int{0, 1, 2, 3, 62, 63, 64, 65, 127, 128, 129, 200, api.MaxBits - 1, api.MaxBits}

// noLengths are lengths that no row has.
var noLengths = []int{-1, api.MaxBits + 1, math.MinInt, math.MaxInt, -64}

// tooLong is a text of one byte more than may be.
var tooLong = strings.Repeat("1", api.MaxText+1)

// numbers are the ones about each end of a count of groups and of digits, and some between.
func numbers() []int {
	out := []int{0, 1, 2, api.MaxNumber - 1, api.MaxNumber}
	for _, base := range []int{10, 128} {
		for power := base; power < api.MaxNumber; power *= base {
			out = append(out, power-1, power, power+1, 5*power/2)
		}
	}
	r := rand.New(rand.NewSource(2))
	for range 2000 {
		out = append(out, r.Intn(api.MaxNumber+1)>>r.Intn(31))
	}
	return slices.DeleteFunc(out, func(n int) bool { return n > api.MaxNumber })
}

// texts is all texts of up to most bytes of an alphabet.
func texts(alphabet string, most int) []string {
	all := []string{""}
	for last := all; most > 0; most-- {
		var longer []string
		for _, s := range last {
			for i := range len(alphabet) {
				longer = append(longer, s+alphabet[i:i+1])
			}
		}
		all = append(all, longer...)
		last = longer
	}
	return all
}

// allBytes is the text of all bytes.
func allBytes() string {
	var b []byte
	for i := range 256 {
		b = append(b, byte(i))
	}
	return string(b)
}

// rows is all rows of n bits, for a short n.
func rows(n int) [][]bool {
	var out [][]bool
	for x := range 1 << n {
		bits := make([]bool, n)
		for i := range bits {
			bits[i] = x>>i&1 == 1
		}
		out = append(out, bits)
	}
	return out
}

// some is rows of n bits: of no ones, of ones alone, of a one at either end, and by chance.
func some(n int) [][]bool {
	none, full, ends, chance := make([]bool, n), make([]bool, n), make([]bool, n), make([]bool, n)
	r := rand.New(rand.NewSource(int64(n)))
	for i := range n {
		full[i] = true
		ends[i] = i == 0 || i == n-1
		chance[i] = r.Intn(2) == 1
	}
	return [][]bool{none, full, ends, chance}
}

// packed is a row's words by the chapter's words.
func packed(bits []bool) []uint64 {
	var w []uint64
	for i, bit := range bits {
		if i%64 == 0 {
			w = append(w, 0)
		}
		if bit {
			w[i/64] += 1 << (i % 64)
		}
	}
	return w
}

// bitOf is the bit i of words.
func bitOf(w []uint64, i int) bool { return w[i/64]>>(i%64)&1 == 1 }

// guarded is a copy of a list with spare room behind it, in which the guard stands.
func guarded[T any](l []T, guard T) []T {
	out := append(slices.Clone(l), guard, guard, guard, guard)
	return out[:len(l)]
}

// untouched looks whether a guarded list and its spare room are as they were.
func untouched[T comparable](t *testing.T, what string, now, was []T, guard T) {
	t.Helper()
	whole := now[:len(was)+4]
	if !slices.Equal(whole[:len(was)], was) || !slices.Equal(whole[len(was):], []T{guard, guard, guard, guard}) {
		t.Errorf("%s: handed in %v, is now %v with spare room %v", what, was, now, whole[len(was):])
	}
}

// spoil writes over all that belongs to a list, spare room too.
func spoil[T any](l []T, by T) {
	l = l[:cap(l)]
	for i := range l {
		l[i] = by
	}
}
