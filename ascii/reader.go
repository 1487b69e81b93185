package ascii

import (
	"strconv"
	"strings"

	"trestle/api"
)

const (
	lineEnd = "\n"
	blank   = " "

	numberBits = 31 // of the greatest number
)

// reader goes through a text line by line.
type reader struct {
	text string
	at   int // where the next line begins
	last int // where the line begins that was read last
}

// line is the next line, without its end. What no end stands behind is no line: it is refused at the place where it begins, which is the text's length if nothing is left.
func (r *reader) line() string {
	r.last = r.at
	line, _, ended := strings.Cut(r.text[r.at:], lineEnd)
	if !ended {
		r.refuse()
	}
	r.at += len(line) + len(lineEnd)
	return line
}

// refuse gives up because of the line that was read last.
func (r *reader) refuse() { giveUp(r.last, api.ErrLine) }

// numbers is the next line's numbers, from least to most of them.
func (r *reader) numbers(least, most int) []int {
	list, ok := numbersOf(r.line(), least, most)
	if !ok {
		r.refuse()
	}
	return list
}

// list is the numbers of the next n lines, one each, none of them above most.
func (r *reader) list(n, most int) []int {
	out := make([]int, n)
	for i := range out {
		out[i] = r.numbers(1, 1)[0]
		if out[i] > most {
			r.refuse()
		}
	}
	return out
}

// numbersOf is the numbers of which a text is made, with one blank between; false: it is not, or they are not from least to most.
func numbersOf(s string, least, most int) ([]int, bool) {
	// One word more than may be is enough to see that there are too many.
	words := strings.SplitN(s, blank, most+1)
	if len(words) < least || len(words) > most {
		return nil, false
	}
	list := make([]int, len(words))
	for i, word := range words {
		n, ok := numberOf(word)
		if !ok {
			return nil, false
		}
		list[i] = n
	}
	return list, true
}

// numberOf is the number that a word is; false: it is none.
func numberOf(word string) (int, bool) {
	if len(word) > 1 && word[0] == '0' {
		return 0, false
	}
	n, err := strconv.ParseUint(word, 10, numberBits)
	return int(n), err == nil
}
