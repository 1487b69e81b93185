package cnf_test

import (
	"math/rand"
	"slices"
	"testing"

	"trestle/api"
	"trestle/cnf"
	"trestle/samples"
)

// 14.2: formulas by hand and by chance as text: a line of each clause, the empty ones too, in their order.
func TestPrint(t *testing.T) {
	right(t, of(2, api.Clause{1, -2}, api.Clause{2}, nil), "p cnf 2 3\n1 -2 0\n2 0\n0\n")
	right(t, of(12, nil, api.Clause{-12, 10, 1}, nil, nil), "p cnf 12 4\n0\n-12 10 1 0\n0\n0\n")
	r := rand.New(rand.NewSource(144))
	for _, vars := range []int{0, 1, 9, 10, 100, 1000, api.MaxVar, api.MaxCnf - 1, api.MaxCnf} {
		for n := range 120 {
			f := samples.Formula(vars, n, r.Intn)
			right(t, f, printOf(f))
		}
	}
}

// unprinted holds Print of a formula that may be against ErrLong; nothing else is wrong with it.
func unprinted(t *testing.T, f api.Cnf) {
	t.Helper()
	checked(t, f, 0, api.OK)
	if s, e := cnf.Print(f); s != "" || e != api.ErrLong {
		t.Fatalf("%s: %s, %v", brief(f), samples.Short(s), e)
	}
}

// fullest is a formula whose text has just as many bytes as may be: 14 of the counts, 4 of each clause of the literal 1, and 2 of the empty one.
func fullest() api.Cnf {
	n := (api.MaxText - 16) / 4
	return of(1, append(many(n, 1), nil)...)
}

// 14.2: texts of as many bytes as may be are printed and read; with one byte more, and with a few more, they are not, wherever these stand.
func TestPrintOfLongTexts(t *testing.T) {
	f := fullest()
	s := printOf(f)
	if len(s) != api.MaxText {
		t.Fatalf("%d bytes", len(s))
	}
	right(t, f, s)
	unread(t, s+" ", 0, api.ErrLong)
	last := len(f.Clauses) - 2
	for _, at := range []int{0, 1, last / 2, last} {
		for _, c := range []api.Clause{{-1}, {1, 1}, {1, 1, 1, -1}} {
			more := of(1, f.Clauses...)
			more.Clauses[at] = c
			unprinted(t, more)
			more.Clauses[at] = api.Clause{1}
		}
	}
	unprinted(t, of(10, f.Clauses...))
	unprinted(t, of(api.MaxCnf, f.Clauses...))
	unprinted(t, of(1, append(slices.Clone(f.Clauses), nil)...))
	less := of(1, f.Clauses[1:]...)
	right(t, less, printOf(less))
}

// 14.2: as many clauses as a text has room for, and as may be at all; long clauses.
func TestPrintOfManyClauses(t *testing.T) {
	most := (api.MaxText - 16) / 2
	right(t, of(0, many(most)...), printOf(of(0, many(most)...)))
	unprinted(t, of(0, many(most+1)...))
	unprinted(t, of(0, many(api.MaxClauses)...))
	unprinted(t, of(9, many(api.MaxClauses, 1, -2, 3)...))
	long := slices.Repeat([]int{-api.MaxCnf}, api.MaxItems)
	right(t, of(api.MaxCnf, long), printOf(of(api.MaxCnf, long)))
	unprinted(t, of(api.MaxCnf, long, long, nil))
	unprinted(t, of(api.MaxCnf, append(many(50, long...), nil)...))
}

// R1: what Check refuses goes ahead of a text that is too long, wherever the wrong clause stands.
func TestPrintOfLongAndWrongOnes(t *testing.T) {
	f := fullest()
	f.Clauses[0] = slices.Repeat([]int{-1}, api.MaxItems)
	last := len(f.Clauses) - 1
	f.Clauses[last] = api.Clause{0}
	refuses(t, "too long, and 0", f, last, api.ErrVar)
	f.Clauses[last] = zeros(api.MaxItems + 1)
	refuses(t, "too long, and a long clause", f, last, api.ErrLong)
	f.Vars = api.MaxCnf + 1
	refuses(t, "too long, and Vars", f, 0, api.ErrRange)
}
