package cnf_test

import (
	"strconv"
	"strings"
	"testing"

	"trestle/api"
	"trestle/samples"
)

// 14.2: the chapter's examples.
func TestParseByExample(t *testing.T) {
	reads(t, "p cnf 2 2\n1 -2 0\n2 0\n", two())
	reads(t, "p cnf 1 1\n0\n", of(1, nil))
	unread(t, "p cnf 1 1\n2 0\n", 10, api.ErrVar)
	unread(t, "p cnf 1 1\n1\n", 12, api.ErrCount)
	unread(t, "p cnf 1 0\n1 0\n", 10, api.ErrCount)
	unread(t, "x", 0, api.ErrProblem)
}

// 14.2: a text that is too long, whatever stands in it; one that has just as many bytes as may be is looked at.
func TestParseOfLongTexts(t *testing.T) {
	for _, s := range []string{"", "x", "p cnf 1 1\n", "p cnf 1 1\n2 0\n", "p cnf 2 2\n1 -2 0\n2 0\n", "c\n", "p cnf 1 1\n1 0\nc "} {
		for _, by := range []string{" ", "\n", "0", "x", "c\n"} {
			long := s + strings.Repeat(by, api.MaxText)
			parsedAsWords(t, long[:api.MaxText])
			unread(t, (long + by)[:api.MaxText+1], 0, api.ErrLong)
			unread(t, long+long, 0, api.ErrLong)
		}
	}
}

// 14.2: texts of as many bytes as may be, by blanks, lines' ends and comments ahead and behind, are read; with one byte more they are not.
func TestParseOfTheLongestTexts(t *testing.T) {
	const text = "p cnf 2 2\n1 -2 0\n2 0\n"
	for _, behind := range []string{" ", "\n", "\t", "\r", "c\n", "c \n"} {
		n := (api.MaxText - len(text)) / len(behind)
		s := text + strings.Repeat(behind, n)
		s += strings.Repeat(" ", api.MaxText-len(s))
		reads(t, s, two())
		unread(t, s+" ", 0, api.ErrLong)
	}
	for _, ahead := range []string{"c\n", "c \xff\n"} {
		n := (api.MaxText - len(text)) / len(ahead)
		s := strings.Repeat(ahead, n) + text
		s += strings.Repeat(" ", api.MaxText-len(s))
		reads(t, s, two())
		unread(t, s+"\n", 0, api.ErrLong)
	}
}

// 14.2: texts without a line of counts: the text's length is told, also of one that has no line at all.
func TestParseWithoutCounts(t *testing.T) {
	for _, s := range []string{"", "c", "c\n", "c ", "c \n", "c p cnf 1 1", "c p cnf 1 1\n", "c\nc\nc\n", "c\nc a\nc", "c x\nc \x00\nc  \nc\n", "c\n" + strings.Repeat("c\n", 1000)} {
		unread(t, s, len(s), api.ErrProblem)
	}
	for n := range 6 {
		for _, lines := range samples.AllLists(n, "c", "c ", "c a") {
			s := samples.Lines(lines...)
			unread(t, s, len(s), api.ErrProblem)
			unread(t, s+"p", len(s), api.ErrProblem)
			unread(t, s+"\n", len(s), api.ErrProblem)
			reads(t, s+"p cnf 0 0", api.Cnf{})
		}
	}
}

// wrongCounts is what may not stand in place of a count, of which the greatest is most.
func wrongCounts(most int) []string {
	return append(wrongNumbers(), strconv.Itoa(most+1), strconv.Itoa(most+2), "1"+strconv.Itoa(most), "-1", "-5", strconv.Itoa(-most), "-"+digits(30), digits(19), digits(20), digits(500), digits(100000), "4294967296", "4294967297", "18446744073709551616", "18446744073709551617", "9223372036854775808")
}

// wrongNumbers is words that are no whole numbers.
func wrongNumbers() []string {
	return []string{
		"+0", "+1", "+5", "-0", "-00", "-01", "-007", "00", "01", "007", "0" + digits(100), "+" + digits(100), "-0" + digits(100), "x" + digits(100), digits(100) + "x", "0000000000000000000000000", "--1", "-+1", "+-1", "-", "+", "1-", "1-1", "1+", "- 1x",
		"x", "1x", "x1", "0x1", "0x", "1_0", "1e1", "1.0", "1.", ".1", "1,", "1,2", "１", "٣", "\x00", "1\x00", "\x001", "1\v", "\v", "1\f2", "\u00a0", "1\u00a0", "\u2028", "\x85", "\xff", "c", "C", "c1", "cc", "1c", "p", "p cnf", "%", "d", "#", "/", ":", "(1)", "\"1\"",
	}
}

// 14.2: lines of counts that are none, ahead of all that may stand behind; the line's place is told, however many comments stand ahead.
func TestParseOfWrongCounts(t *testing.T) {
	lines := []string{
		"p", "p cnf", "p cnf ", "p cnf 1", "p cnf 1 ", "p cnf  1", "p cnf 1 1 ", " p cnf 1 1", "p  cnf 1 1", "p cnf  1 1", "p cnf 1  1", "p cnf 1 1  ", "p\tcnf 1 1", "p cnf\t1 1", "p cnf 1\t1", "p cnf 1 1\t", "\tp cnf 1 1", "p cnf 1 1\r", "\rp cnf 1 1", "p cnf 1\r1",
		"p cnf 1 1 1", "p cnf 1 1 0", "p cnf 1 1 c", "p cnf 11", "p cnf 1,1", "pcnf 1 1", "p cnf1 1", "P cnf 1 1", "p CNF 1 1", "p Cnf 1 1", "p dnf 1 1", "p cnfs 1 1", "p wcnf 1 1", "cnf 1 1", "p 1 1", "1 1", "q cnf 1 1", "pp cnf 1 1", "p c 1 1", "", " ", "  ", "\t", "\r", "0", "1 0", "-1", "x", "cx", "c\t", "c\r", "c\tx", "cp cnf 1 1", "C", "C x", " c", " c x", "\tc", "%", "\x00", "\x00p cnf 1 1", "\ufeffp cnf 1 1", "p cnf x 1", "p cnf 1 x", "aag 0 0 0 0 0",
	}
	for _, wrong := range wrongCounts(api.MaxCnf) {
		lines = append(lines, "p cnf "+wrong+" 1")
	}
	for _, wrong := range wrongCounts(api.MaxClauses) {
		lines = append(lines, "p cnf 1 "+wrong)
	}
	for _, line := range lines {
		for _, ahead := range []string{"", "c\n", "c p cnf 1 1\nc\nc  x\n"} {
			for _, behind := range []string{"\n", "\n1 0\n", "\n2 0\n", "\nx", "\np cnf 1 1\n1 0\n", "\nc\n"} {
				unread(t, ahead+line+behind, len(ahead), api.ErrProblem)
			}
			unread(t, ahead+line, len(ahead), api.ErrProblem)
		}
	}
}

// 14.2: the counts at their ends, with all clauses there or with some missing.
func TestParseOfCountsAtTheirEnds(t *testing.T) {
	reads(t, "p cnf 0 0", api.Cnf{})
	reads(t, "p cnf 0 0\n", api.Cnf{})
	reads(t, "p cnf 262144 0\n", of(api.MaxCnf))
	reads(t, "p cnf 262144 1\n262144 -262144 0\n", of(api.MaxCnf, api.Clause{api.MaxCnf, -api.MaxCnf}))
	unread(t, "p cnf 262143 1\n262143 -262144 0\n", 22, api.ErrVar)
	unread(t, "p cnf 262145 1\n262144 -262144 0\n", 0, api.ErrProblem)
	unread(t, "p cnf 262144 524289\n", 0, api.ErrProblem)
	for _, s := range []string{"p cnf 0 524288", "p cnf 262144 524288\n", "p cnf 1 524288\n1 0\n", "p cnf 0 1", "p cnf 0 1\n", "p cnf 1 2\n1 0\n", "p cnf 1 2\n1 0 1\n"} {
		unread(t, s, len(s), api.ErrCount)
	}
	for vars := range 12 {
		for clauses := range 12 {
			s := samples.Lines("p cnf " + samples.Numbers(vars, clauses))
			for n := range 13 {
				text := s + strings.Repeat("0 ", n)
				switch {
				case n < clauses:
					unread(t, text, len(text), api.ErrCount)
				case n == clauses:
					reads(t, text, of(vars, many(n)...))
				default:
					unread(t, text, len(s)+2*clauses, api.ErrCount)
				}
			}
		}
	}
}

// 14.2: each byte put into the line of the counts, over one of its bytes, and each one taken out.
func TestParseOfChangedCounts(t *testing.T) {
	for _, rest := range []string{"", "\n", "\n1 -1 0\n0\n"} {
		const line = "p cnf 1 2"
		for at := range len(line) + 1 {
			for b := range 256 {
				put := string([]byte{byte(b)})
				parsedAsWords(t, line[:at]+put+line[at:]+rest)
				if at < len(line) {
					parsedAsWords(t, line[:at]+put+line[at+1:]+rest)
				}
			}
			if at < len(line) {
				parsedAsWords(t, line[:at]+line[at+1:]+rest)
			}
		}
	}
}
