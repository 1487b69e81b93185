package stim

import (
	"strconv"
	"strings"

	"trestle/api"
)

// statusOf is the Status that a line tells; false: it is none.
func statusOf(line string) (int, bool) {
	n, ok := numberOf(line)
	return n, ok && n <= unknown
}

// propsOf is the properties that a line tells; false: a witness may not have them.
func propsOf(line string) ([]api.Prop, bool) {
	// One word more than may be is enough to see that there are too many.
	words := strings.SplitN(line, blank, api.MaxItems+1)
	if len(words) > api.MaxItems {
		return nil, false
	}
	props := make([]api.Prop, len(words))
	for i, word := range words {
		p, ok := propOf(word)
		if !ok {
			return nil, false
		}
		props[i] = p
	}
	return props, areProps(props)
}

// propOf is a letter and the number right behind it; whether the letter is a property's is asked of all of them.
func propOf(word string) (api.Prop, bool) {
	if word == "" {
		return api.Prop{}, false
	}
	at, ok := numberOf(word[1:])
	return api.Prop{Kind: word[0], At: at}, ok
}

// rowOf is the truths of a line of n digits; an x is either, and taken as 0. False: it is no such line.
func rowOf(line string, n int) ([]bool, bool) {
	if len(line) != n {
		return nil, false
	}
	row := make([]bool, n)
	for i, digit := range line {
		switch digit {
		case '1':
			row[i] = true
		case '0', 'x':
		default:
			return nil, false
		}
	}
	return row, true
}

// loopOf is the number in a loop's line; false: it is no such line.
func loopOf(line string) (int, bool) {
	digits, is := strings.CutPrefix(line, loopWord)
	n, ok := numberOf(digits)
	return n, is && ok
}

// numberOf is the number that a word is; false: it is none, or above what may stand anywhere.
func numberOf(word string) (int, bool) {
	n, err := strconv.Atoi(word)
	// Only the digits that are written of a number are read as it: no +5, -0, 007.
	return n, err == nil && 0 <= n && n < api.MaxItems && strconv.Itoa(n) == word
}
