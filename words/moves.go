package words

import (
	"math/bits"

	"trestle/api"
)

// Shift is the words of a row of n bits after each bit has moved by so many places; what leaves the row is lost.
func Shift(w []uint64, n, by int) ([]uint64, api.Errno) {
	if e := check(w, n); e != api.OK {
		return nil, e
	}
	from, to := unpack(w, n), make([]bool, n)
	// The bounds come first: the least int has no negative.
	if 0 <= by && by < n {
		copy(to[by:], from)
	} else if -n < by && by < 0 {
		copy(to, from[-by:])
	}
	return pack(to), api.OK
}

// Ones is how many bits of words are 1.
func Ones(w []uint64) int {
	sum := 0
	for _, x := range w {
		sum += bits.OnesCount64(x)
	}
	return sum
}

// Meet is the bits that are 1 in both.
func Meet(a, b []uint64) ([]uint64, api.Errno) {
	return join(a, b, func(x, y uint64) uint64 { return x & y })
}

// Differ is the bits that are 1 in just one of both.
func Differ(a, b []uint64) ([]uint64, api.Errno) {
	return join(a, b, func(x, y uint64) uint64 { return x ^ y })
}

// join puts two lists of as many words together, word by word.
func join(a, b []uint64, both func(x, y uint64) uint64) ([]uint64, api.Errno) {
	if len(a) > api.MaxItems || len(b) > api.MaxItems {
		return nil, api.ErrLong
	}
	if len(a) != len(b) {
		return nil, api.ErrShape
	}
	out := make([]uint64, len(a))
	for i := range out {
		out[i] = both(a[i], b[i])
	}
	return out, api.OK
}
