package words

import "trestle/api"

const (
	wordBits  = 64
	indexBits = 62 // of a row that is told as an int
)

// Pack is the words of a row of bits.
func Pack(bits []bool) ([]uint64, api.Errno) {
	if len(bits) > api.MaxBits {
		return nil, api.ErrLong
	}
	return pack(bits), api.OK
}

// Unpack is the row of n bits of which w is the words.
func Unpack(w []uint64, n int) ([]bool, api.Errno) {
	if e := check(w, n); e != api.OK {
		return nil, e
	}
	return unpack(w, n), api.OK
}

// Text is a row as digits 1 and 0.
func Text(bits []bool) (string, api.Errno) {
	if len(bits) > api.MaxBits {
		return "", api.ErrLong
	}
	text := make([]byte, len(bits))
	for i, bit := range bits {
		text[i] = '0'
		if bit {
			text[i] = '1'
		}
	}
	return string(text), api.OK
}

// Bits is the row that a text of digits 1 and 0 tells.
func Bits(s string) ([]bool, api.Fault) {
	if len(s) > api.MaxBits {
		return nil, api.Fault{Code: api.ErrLong}
	}
	bits := make([]bool, len(s))
	for i := range len(s) {
		if s[i] != '0' && s[i] != '1' {
			return nil, api.Fault{At: i, Code: api.ErrBit}
		}
		bits[i] = s[i] == '1'
	}
	return bits, api.Fault{}
}

// Index is a short row as a number, its first bit the lowest.
func Index(bits []bool) (int, api.Errno) {
	if len(bits) > indexBits {
		return 0, api.ErrLong
	}
	return int(word(bits)), api.OK
}

// Row is the row of n bits of which index is the Index.
func Row(index, n int) ([]bool, api.Errno) {
	if n < 0 || n > indexBits || index < 0 || index>>n != 0 {
		return nil, api.ErrRange
	}
	bits := make([]bool, n)
	spread(bits, uint64(index))
	return bits, api.OK
}

// check says what is wrong with words that are to be a row of n bits.
func check(w []uint64, n int) api.Errno {
	if n < 0 || n > api.MaxBits {
		return api.ErrRange
	}
	if len(w) != wordsOf(n) {
		return api.ErrShape
	}
	if over := n % wordBits; over != 0 && w[len(w)-1]>>over != 0 {
		return api.ErrShape
	}
	return api.OK
}

// wordsOf is how many words hold n bits.
func wordsOf(n int) int { return (n + wordBits - 1) / wordBits }

// pack is the words of a row.
func pack(bits []bool) []uint64 {
	w := make([]uint64, wordsOf(len(bits)))
	for i := range w {
		w[i] = word(bits[i*wordBits : min((i+1)*wordBits, len(bits))])
	}
	return w
}

// unpack is the row of n bits that right words hold.
func unpack(w []uint64, n int) []bool {
	bits := make([]bool, n)
	for i, x := range w {
		spread(bits[i*wordBits:min((i+1)*wordBits, n)], x)
	}
	return bits
}

// word shifts at most 64 bits into one word, the first one the lowest.
func word(bits []bool) uint64 {
	var w uint64
	for i, bit := range bits {
		if bit {
			w |= 1 << i
		}
	}
	return w
}

// spread lays a word's lowest bits out, as many as there is room for.
func spread(bits []bool, w uint64) {
	for i := range bits {
		bits[i] = w>>i&1 == 1
	}
}
