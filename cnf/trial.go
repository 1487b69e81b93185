package cnf

import (
	"math/bits"

	"trestle/api"
)

// A word holds 64 assignments: lowDigits of an assignment's number say which bit of the word it is, the others which word.
const (
	lowDigits = 6
	wordBits  = 1 << lowDigits
)

// whereTrue has, for each of the low digits, the bits of a word in whose numbers it is 1.
var whereTrue = [lowDigits]uint64{
	0xaaaaaaaaaaaaaaaa, 0xcccccccccccccccc, 0xf0f0f0f0f0f0f0f0, 0xff00ff00ff00ff00, 0xffff0000ffff0000, 0xffffffff00000000,
}

// trial is all assignments of a few variables, tried at once. An assignment's number has a digit for each variable, of 1 the highest one, and 1 is true: so the numbers rise as the assignments come.
type trial struct {
	vars int
	left []uint64 // the bits of the assignments by which no clause is false
}

// trialOf is what is left of all assignments by a formula's clauses.
func trialOf(f api.Cnf) (trial, api.Errno) {
	if _, e := Check(f); e != api.OK {
		return trial{}, e
	}
	if f.Vars > api.MaxTrial {
		return trial{}, api.ErrSize
	}
	t := all(f.Vars)
	for _, c := range f.Clauses {
		t.strike(c)
	}
	return t, api.OK
}

// all is a trial in which all assignments are left.
func all(vars int) trial {
	if vars < lowDigits {
		return trial{vars, []uint64{1<<(1<<vars) - 1}}
	}
	left := make([]uint64, 1<<(vars-lowDigits))
	for i := range left {
		left[i] = ^uint64(0)
	}
	return trial{vars, left}
}

// strike takes away the assignments by which a clause is false: those in whose numbers all its literals' digits are so.
func (t trial) strike(c api.Clause) {
	zeros, ones, struck := 0, 0, ^uint64(0)
	for _, x := range c {
		digit := t.vars - variable(x)
		switch {
		case digit >= lowDigits && x > 0:
			zeros |= 1 << (digit - lowDigits)
		case digit >= lowDigits:
			ones |= 1 << (digit - lowDigits)
		case x > 0:
			struck &^= whereTrue[digit]
		default:
			struck &= whereTrue[digit]
		}
	}
	for i := range t.left {
		if i&zeros == 0 && i&ones == ones {
			t.left[i] &^= struck
		}
	}
}

// count is how many assignments are left.
func (t trial) count() int {
	n := 0
	for _, word := range t.left {
		n += bits.OnesCount64(word)
	}
	return n
}

// first is the first assignment that is left; false: there is none.
func (t trial) first() ([]bool, bool) {
	for i, word := range t.left {
		if word != 0 {
			return t.assignment(i*wordBits + bits.TrailingZeros64(word)), true
		}
	}
	return nil, false
}

// assignment is the one of a number.
func (t trial) assignment(number int) []bool {
	truths := make([]bool, t.vars)
	for i := range truths {
		digit := t.vars - 1 - i
		truths[i] = number>>digit&1 == 1
	}
	return truths
}
