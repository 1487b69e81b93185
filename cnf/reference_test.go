package cnf_test

import (
	"fmt"
	"math/big"
	"regexp"
	"slices"
	"strings"
	"testing"

	"trestle/api"
	"trestle/cnf"
	"trestle/samples"
)

// The chapter's forms.
var (
	commentForm = regexp.MustCompile(`^c( [^\n]*)?\n?$`)
	countsForm  = regexp.MustCompile(`^p cnf (0|[1-9][0-9]*) (0|[1-9][0-9]*)\n?$`)
	wordForm    = regexp.MustCompile(`[^ \t\r\n]+`)
	wholeForm   = regexp.MustCompile(`^(0|-?[1-9][0-9]*)$`)
)

// checkOf is Check by the chapter's words.
func checkOf(f api.Cnf) (int, api.Errno) {
	if f.Vars < 0 || f.Vars > 1<<18 {
		return 0, api.ErrRange
	}
	if len(f.Clauses) > 1<<19 {
		return 0, api.ErrLong
	}
	for i, c := range f.Clauses {
		if len(c) > 1<<14 {
			return i, api.ErrLong
		}
		for _, x := range c {
			if n := big.NewInt(int64(x)); x == 0 || n.CmpAbs(big.NewInt(int64(f.Vars))) > 0 {
				return i, api.ErrVar
			}
		}
	}
	return 0, api.OK
}

// printOf is the text of a formula that may be, by the chapter's words.
func printOf(f api.Cnf) string {
	var b strings.Builder
	fmt.Fprintln(&b, "p cnf", f.Vars, len(f.Clauses))
	for _, c := range f.Clauses {
		for _, x := range c {
			fmt.Fprintf(&b, "%d ", x)
		}
		fmt.Fprintln(&b, 0)
	}
	return b.String()
}

// wordAt is a word of a text, and where it begins.
type wordAt struct {
	at   int
	text string
}

// numberIn is the number that a word of the form of one is.
func numberIn(word string) *big.Int {
	n, _ := new(big.Int).SetString(word, 10)
	return n
}

// above tells whether digits are a number above most.
func above(digits string, most int64) bool { return numberIn(digits).Cmp(big.NewInt(most)) > 0 }

// parseOf is Parse by the chapter's words: first all comments are left away, and the words are told with their places.
func parseOf(s string) (api.Cnf, api.Fault) {
	if len(s) > 1<<18 {
		return api.Cnf{}, api.Fault{Code: api.ErrLong}
	}
	var counts []string
	var words []wordAt
	next := 0
	for _, line := range strings.SplitAfter(s, "\n") {
		at := next
		next += len(line)
		if line == "" || commentForm.MatchString(line) {
			continue
		}
		if counts != nil {
			for _, place := range wordForm.FindAllStringIndex(line, -1) {
				words = append(words, wordAt{at + place[0], line[place[0]:place[1]]})
			}
			continue
		}
		counts = countsForm.FindStringSubmatch(line)
		if counts == nil || above(counts[1], 1<<18) || above(counts[2], 1<<19) {
			return api.Cnf{}, api.Fault{At: at, Code: api.ErrProblem}
		}
	}
	if counts == nil {
		return api.Cnf{}, api.Fault{At: len(s), Code: api.ErrProblem}
	}
	return wordsOf(int(numberIn(counts[1]).Int64()), int(numberIn(counts[2]).Int64()), words, len(s))
}

// wordsOf is the formula of some words, in a text that ends at a place.
func wordsOf(vars, most int, words []wordAt, end int) (api.Cnf, api.Fault) {
	f := api.Cnf{Vars: vars}
	var clause api.Clause
	inside := false
	for _, w := range words {
		wrong := func(code api.Errno) (api.Cnf, api.Fault) { return api.Cnf{}, api.Fault{At: w.at, Code: code} }
		if !wholeForm.MatchString(w.text) {
			return wrong(api.ErrForm)
		}
		n := numberIn(w.text)
		if n.CmpAbs(big.NewInt(int64(vars))) > 0 {
			return wrong(api.ErrVar)
		}
		if !inside && len(f.Clauses) == most {
			return wrong(api.ErrCount)
		}
		if inside = n.Sign() != 0; !inside {
			f.Clauses = append(f.Clauses, clause)
			clause = nil
			continue
		}
		if len(clause) == 1<<14 {
			return wrong(api.ErrLong)
		}
		clause = append(clause, int(n.Int64()))
	}
	if inside || len(f.Clauses) < most {
		return api.Cnf{}, api.Fault{At: end, Code: api.ErrCount}
	}
	return f, api.Fault{}
}

// forceOf is Force by the chapter's words, of a right formula and literals of its variables: all clauses are gone through again and again.
func forceOf(f api.Cnf, given []int) ([]int, bool) {
	is := map[int]bool{}
	for _, x := range given {
		is[x] = true
	}
	for more := true; more; {
		more = false
		for _, c := range f.Clauses {
			var left []int
			for _, x := range c {
				if !is[-x] && !slices.Contains(left, x) {
					left = append(left, x)
				}
			}
			if len(left) == 0 {
				return nil, false
			}
			if len(left) == 1 && !is[left[0]] {
				is[left[0]], more = true, true
			}
		}
	}
	var out []int
	for v := 1; v <= f.Vars; v++ {
		if is[v] && is[-v] {
			return nil, false
		}
		if is[v] {
			out = append(out, v)
		} else if is[-v] {
			out = append(out, -v)
		}
	}
	return out, true
}

// parsedAsWords holds Parse of a text against the chapter's words, and tells what it answered.
func parsedAsWords(t *testing.T, s string) api.Errno {
	t.Helper()
	want, fault := parseOf(s)
	if fault.Code == api.OK {
		reads(t, s, want)
	} else {
		unread(t, s, fault.At, fault.Code)
	}
	return fault.Code
}

// checkedAsWords holds Check, and all calls that refuse what it refuses, of a formula against the chapter's words; what may be is printed and read.
func checkedAsWords(t *testing.T, f api.Cnf) api.Errno {
	t.Helper()
	at, e := checkOf(f)
	if e != api.OK {
		refuses(t, f, f, at, e)
	} else {
		right(t, f, printOf(f))
	}
	return e
}

// triedAsWords holds Models, Least, and Holds by all models, of a right formula of a few variables against the chapter's words, and tells how many models it has.
func triedAsWords(t *testing.T, f api.Cnf) int {
	t.Helper()
	models := samples.Models(f)
	if n, e := cnf.Models(f); n != len(models) || e != api.OK {
		t.Fatalf("%+v: %d, %v, want %d", f, n, e, len(models))
	}
	m, e := cnf.Least(f)
	if len(models) > 0 && (!slices.Equal(m, models[0]) || e != api.OK) || len(models) == 0 && (len(m) > 0 || e != api.ErrNone) {
		t.Fatalf("%+v: %v, %v, want %v", f, m, e, models)
	}
	for _, m := range samples.AllLists(f.Vars, false, true) {
		at := slices.IndexFunc(f.Clauses, func(c api.Clause) bool { return !samples.IsTrue(c, m) })
		if ok, i, e := cnf.Holds(f, m); ok != (at < 0) || i != max(at, 0) || e != api.OK {
			t.Fatalf("%+v by %v: %v, %d, %v, want %d", f, m, ok, i, e, at)
		}
	}
	return len(models)
}

// forcedAsWords holds Force against the chapter's words, and tells whether it answered true.
func forcedAsWords(t *testing.T, f api.Cnf, given []int) bool {
	t.Helper()
	want, can := forceOf(f, given)
	if can {
		forces(t, f, given, want...)
	} else {
		cannot(t, f, given...)
	}
	return can
}
