package cnf

import (
	"strconv"
	"strings"

	"trestle/api"
)

// Bytes of a text.
const (
	blank          = ' '
	tab            = '\t'
	carriageReturn = '\r'
	lineEnd        = '\n'
	comment        = 'c'

	between = " \t\r\n" // what parts words
)

const (
	problem   = "p cnf " // stands ahead of the counts
	oneBlank  = " "
	clauseEnd = "0\n"
)

// countsOf is the numbers of variables and of clauses that a line tells; false: it is not the line of the counts.
func countsOf(line string) (vars, clauses int, ok bool) {
	counts, is := strings.CutPrefix(line, problem)
	first, second, _ := strings.Cut(counts, oneBlank)
	vars, okVars := countOf(first, api.MaxCnf)
	clauses, okClauses := countOf(second, api.MaxClauses)
	return vars, clauses, is && okVars && okClauses
}

// countOf is the number from 0 to most that a word is; false: it is none.
func countOf(word string, most int) (int, bool) {
	n, ok := numberOf(word)
	return n, ok && 0 <= n && n <= most
}

// numberOf is the whole number that a word is, or, of one that is too great for an int, the greatest or least that there is; false: it is none.
func numberOf(word string) (int, bool) {
	digits := strings.TrimPrefix(word, "-")
	if !areDigits(digits) || digits[0] == '0' && word != "0" {
		return 0, false
	}
	// It has the form of a number, so that an error can but say that it is too great.
	n, _ := strconv.Atoi(word)
	return n, true
}

// areDigits tells whether a word has digits, and nothing else.
func areDigits(word string) bool {
	for i := range len(word) {
		if word[i] < '0' || word[i] > '9' {
			return false
		}
	}
	return word != ""
}

// appendCounts puts the line of a formula's counts behind a text.
func appendCounts(text []byte, f api.Cnf) []byte {
	text = append(text, problem...)
	text = strconv.AppendInt(text, int64(f.Vars), 10)
	text = append(text, blank)
	text = strconv.AppendInt(text, int64(len(f.Clauses)), 10)
	return append(text, lineEnd)
}

// appendClause puts the line of a clause behind a text.
func appendClause(text []byte, c api.Clause) []byte {
	for _, x := range c {
		text = append(strconv.AppendInt(text, int64(x), 10), blank)
	}
	return append(text, clauseEnd...)
}
