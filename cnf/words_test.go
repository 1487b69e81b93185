package cnf_test

import (
	"math/rand"
	"slices"
	"strings"
	"testing"

	"trestle/api"
	"trestle/samples"
)

// 14.2: blanks of each kind, none, one and many, between words, at lines' beginnings and at their ends; clauses over several lines, and several of them on one.
func TestParseOfBlanks(t *testing.T) {
	blanks := []string{"", " ", "\t", "\r", "  ", " \t\r", "\r\r\t\t  ", strings.Repeat(" \t", 500)}
	for _, a := range blanks {
		for _, b := range blanks {
			for _, end := range []string{"", "\n", "\n\n", a + "\n" + b + "\n" + b} {
				reads(t, "p cnf 2 2\n"+a+"1 "+b+"-2 0"+b+"\n"+b+"2 "+a+"0"+a+end, two())
				reads(t, "p cnf 2 2\n"+b+"1"+a+"\n"+b+"-2"+a+"\n"+a+"\n0"+b+"\n2"+b+"\n0"+end, two())
				reads(t, "p cnf 2 2\n"+a+"1\t"+b+"-2\r"+a+"0 "+b+"2\t\r"+b+"0"+b+end, two())
				reads(t, "p cnf 2 0\n"+a+b+end+a+end+b, of(2))
			}
		}
	}
	reads(t, "p cnf 3 4\n1 2 3 0 -1 0 0\n-2\n-3 0", of(3, api.Clause{1, 2, 3}, api.Clause{-1}, nil, api.Clause{-2, -3}))
	reads(t, "p cnf 3 2\n1\r\n2\r\n0\r\n-3 0\r\n", of(3, api.Clause{1, 2}, api.Clause{-3}))
}

// 14.2: words stand apart: without a blank between they are one, and of all bytes but these none parts them.
func TestParseOfOtherBytes(t *testing.T) {
	for b := range 256 {
		put := string([]byte{byte(b)})
		text := "p cnf 12 1\n1" + put + "2 0\n"
		switch b {
		case ' ', '\t', '\r', '\n':
			reads(t, text, of(12, api.Clause{1, 2}))
		case '0':
			unread(t, text, 11, api.ErrVar)
		default:
			parsedAsWords(t, text)
		}
		parsedAsWords(t, "p cnf 12 1\n"+put+"\n1 0\n")
		parsedAsWords(t, "p cnf 12 1\n"+put+" x\n1 0\n")
		parsedAsWords(t, "p cnf 12 1\n1 "+put+" 0\n")
		parsedAsWords(t, "p cnf 12 1\n1 0"+put)
		parsedAsWords(t, "p cnf 12 1\n1 0\n"+put)
		parsedAsWords(t, put+" x\np cnf 12 1\n1 0\n")
		parsedAsWords(t, put+"\np cnf 12 1\n1 0\n")
	}
	reads(t, "p cnf 12 1\n12 0", of(12, api.Clause{12}))
	unread(t, "p cnf 12 1\n120", 11, api.ErrVar)
	unread(t, "p cnf 12 1\n1 2-1 0", 13, api.ErrForm)
}

// 14.2: comments ahead of the line of the counts, behind it, in the midst of a clause, and behind the last one, with an end or without.
func TestParseOfComments(t *testing.T) {
	for _, comment := range []string{"c", "c ", "c x", "c 1 0", "c p cnf 7 7", "c\x20\x00\xff", "c  c", "c \t\r", "c é", "c " + strings.Repeat("9", 5000), "c\nc", "c \nc\nc 0"} {
		lines := []string{"p cnf 3 2", "1", "-2 3", "0 2", "0"}
		want := of(3, api.Clause{1, -2, 3}, api.Clause{2})
		for at := range len(lines) + 1 {
			with := append(append(append([]string{}, lines[:at]...), comment), lines[at:]...)
			s := samples.Lines(with...)
			reads(t, s, want)
			reads(t, s[:len(s)-1], want)
			reads(t, comment+"\n"+s+comment, want)
			reads(t, comment+"\n"+comment+"\n"+s+comment+"\n"+comment, want)
		}
		// Behind it a fault has its place in the text.
		s := comment + "\np cnf 1 2\n1 " + "\n" + comment + "\n"
		unread(t, s+"x", len(s), api.ErrForm)
		unread(t, s+"\n 2", len(s)+2, api.ErrVar)
		unread(t, s+"0 0 0", len(s)+4, api.ErrCount)
		unread(t, s+"0", len(s)+1, api.ErrCount)
	}
}

// 14.2: what is no comment: a line that begins with c and no blank, or with a blank and c.
func TestParseOfNoComments(t *testing.T) {
	const head = "p cnf 1 1\n1\n"
	for _, line := range []string{"cx", "c1", "cc", "cc x", "c0", "c\t", "c\tx", "c\r", "c\rx", "c\x00", "C", "C x", "c-", "comment", "c.", "#", "c\xa0x", "c\u00a0x"} {
		unread(t, head+line+"\n0\n", len(head), api.ErrForm)
		unread(t, head+line, len(head), api.ErrForm)
		unread(t, line+"\n"+head+"0\n", 0, api.ErrProblem)
		unread(t, "c\n"+line, 2, api.ErrProblem)
	}
	for _, ahead := range []string{" ", "\t", "\r", "  ", "1 ", "0 "} {
		for _, line := range []string{"c", "c x", "c 0", "c\n"} {
			unread(t, head+ahead+line, len(head)+len(ahead), api.ErrForm)
		}
	}
}

// 14.2: words that are no whole numbers, in each place of a clause, in place of its 0, and behind the last one: the word's first byte is told.
func TestParseOfWrongWords(t *testing.T) {
	for _, wrong := range wrongNumbers() {
		for _, head := range []string{"p cnf 9 3\n", "p cnf 9 3\n1 ", "p cnf 9 3\n\n\t1 2\n\n", "p cnf 9 3\n1 0\n", "p cnf 9 1\n0\n", "c\np cnf 9 0\n\t", "p cnf 0 0\n\r"} {
			// At a line's beginning a c alone is a comment.
			if wrong == "c" {
				continue
			}
			for _, rest := range []string{"", "\n", " ", " 0\n", "\t10 0", "\r0 0 0 0 0 x", "\nx"} {
				unread(t, head+wrong+rest, len(head), api.ErrForm)
			}
		}
	}
}

// 14.2, R6: numbers whose variable is above Vars, however long they are: ErrVar, at the number's first byte; those up to Vars are read.
func TestParseOfGreatNumbers(t *testing.T) {
	for _, great := range []string{"3", "-3", "10", "-12", "100", "262144", "-262145", "2147483648", "4294967297", "-4294967295", "9223372036854775807", "9223372036854775808", "-9223372036854775808", "-9223372036854775809", "18446744073709551617", "18446744073709551615", digits(100), "-" + digits(100), "1" + strings.Repeat("0", 1000), digits(200000)} {
		for _, head := range []string{"p cnf 2 2\n", "p cnf 2 2\n-1 ", "p cnf 2 2\n\n1 0\n", "p cnf 2 1\n0\n", "p cnf 2 0\n"} {
			for _, rest := range []string{"", " 0\n", "\nx", " 3"} {
				unread(t, head+great+rest, len(head), api.ErrVar)
			}
		}
	}
	for _, x := range []int{1, -1, 2, -2, 10, -10, 99, -99, 100, -100, 262143, -262143, 262144, -262144} {
		s := samples.Numbers(x)
		for _, vars := range []int{1, 2, 10, 99, 100, 262143, 262144} {
			head := "p cnf " + samples.Numbers(vars, 1) + "\n"
			if max(x, -x) <= vars {
				reads(t, head+s+" 0", of(vars, api.Clause{x}))
			} else {
				unread(t, head+s+" 0", len(head), api.ErrVar)
			}
		}
	}
}

// 14.2: the first clause too many, by a literal or by a 0: its first word is told; behind the last clause but one nothing is too many.
func TestParseOfTooManyClauses(t *testing.T) {
	for n := range 5 {
		head := "p cnf 2 " + samples.Numbers(n) + "\n" + strings.Repeat("1 -2 0\n", n)
		reads(t, head, of(2, many(n, 1, -2)...))
		for _, word := range []string{"0", "1", "-2", "1 0", "2 1 0", "0 0", "0 x", "1 x", "1 3", "-1\nc\n0"} {
			unread(t, head+word, len(head), api.ErrCount)
			unread(t, head+" \t"+word, len(head)+2, api.ErrCount)
			unread(t, head+"c x\n\n "+word+"\n", len(head)+6, api.ErrCount)
		}
		unread(t, head+"x 1 0", len(head), api.ErrForm)
		unread(t, head+"3 0", len(head), api.ErrVar)
		unread(t, head+"-0", len(head), api.ErrForm)
	}
}

// 14.2: fewer clauses than there are to be, and a last one without its 0: the text's length, whatever blanks and comments stand at its end.
func TestParseOfMissingClauses(t *testing.T) {
	for n := range 5 {
		for k := range n + 1 {
			text := "p cnf 2 " + samples.Numbers(n) + "\n" + strings.Repeat("1 -2 0\n", k)
			for _, end := range []string{"", "\n", " ", " \t\r\n\n", "c", "c 0\n", "\n\nc 1 0 1 0 1 0 1 0\n"} {
				if k < n {
					unread(t, text+end, len(text)+len(end), api.ErrCount)
					unread(t, text+"1\n"+end, len(text)+2+len(end), api.ErrCount)
					unread(t, text+"2 -2\n"+end, len(text)+5+len(end), api.ErrCount)
				} else {
					reads(t, text+end, of(2, many(n, 1, -2)...))
				}
			}
		}
	}
}

// 14.2: as many literals of a clause as may be; the first one too many is told, behind all else that its word may have wrong.
func TestParseOfLongClauses(t *testing.T) {
	long := strings.Repeat("1 ", api.MaxItems)
	most := slices.Repeat(api.Clause{1}, api.MaxItems)
	reads(t, "p cnf 1 1\n"+long+"0\n", of(1, most))
	reads(t, "p cnf 1 3\n0 "+long+"\n0 -1 0", of(1, nil, most, api.Clause{-1}))
	reads(t, "p cnf 1 2\n"+long+"0 "+long+"0", of(1, most, most))
	for _, head := range []string{"p cnf 1 1\n", "p cnf 1 2\n-1 0\n", "p cnf 1 9\n" + long + "0\n"} {
		at := len(head + long)
		for _, rest := range []string{"1", "1 0", "-1 0\n", "1 1 1 1 0", "1 x", "1 2", "1\nc\n0"} {
			unread(t, head+long+rest, at, api.ErrLong)
		}
		unread(t, head+long+"\n\nc x\n1", at+6, api.ErrLong)
		unread(t, head+long+"x", at, api.ErrForm)
		unread(t, head+long+"-0", at, api.ErrForm)
		unread(t, head+long+"2", at, api.ErrVar)
		unread(t, head+long+digits(30), at, api.ErrVar)
		unread(t, head+long, at, api.ErrCount)
	}
	unread(t, "p cnf 1 0\n"+long+"1 0", 10, api.ErrCount)
	unread(t, "p cnf 1 1\n0 "+long+"1 0", 12, api.ErrCount)
}

// 14.2: as many clauses as a text has room for.
func TestParseOfManyClauses(t *testing.T) {
	const n = (api.MaxText - 16) / 2
	head := "p cnf 0 " + samples.Numbers(n) + "\n"
	s := head + strings.Repeat("0\n", n)
	reads(t, s, of(0, many(n)...))
	unread(t, s+"0", len(s), api.ErrCount)
	unread(t, s[:len(s)-2], len(s)-2, api.ErrCount)
}

// 14.2: a text that is cut anywhere.
func TestParseOfCutTexts(t *testing.T) {
	const s = "c one\np cnf 12 3\n10 -12\nc two\n 0 0 1\t\n-11 0\nc"
	reads(t, s, of(12, api.Clause{10, -12}, nil, api.Clause{1, -11}))
	for n := range len(s) {
		parsedAsWords(t, s[:n])
		parsedAsWords(t, s[n:])
	}
}

// R1: of two wrong words the first one is told, and any of them ahead of missing clauses.
func TestParseOfTwoWrongWords(t *testing.T) {
	words := []string{"1", "-2", "0", "2", "0", "-1", "0"}
	wrong := map[string]api.Errno{"x": api.ErrForm, "3": api.ErrVar, "-0": api.ErrForm, digits(40): api.ErrVar}
	for i := range words {
		for k := i + 1; k < len(words); k++ {
			for first, want := range wrong {
				for second := range wrong {
					all := append([]string{}, words...)
					all[i], all[k] = first, second
					s := "p cnf 2 4\n" + strings.Join(all, "\n")
					unread(t, s, len("p cnf 2 4\n"+samples.Lines(all[:i]...)), want)
				}
			}
		}
	}
}

// 14.2: all texts of a few words and lines, behind lines of counts, are read as the chapter's words say.
func TestParseOfAllWords(t *testing.T) {
	tokens := []string{"0", "1", "-1", "2", "x", "c", " ", "\n"}
	for _, head := range []string{"p cnf 1 1\n", "p cnf 1 2\n", "p cnf 2 0\n", "p cnf 1 1\n1 ", "p cnf 1 2\n0 1"} {
		for n := range 6 {
			for _, list := range samples.AllLists(n, tokens...) {
				parsedAsWords(t, head+strings.Join(list, ""))
			}
		}
	}
}

// 14.2: all short texts of bytes that matter, from their beginning on.
func TestParseOfAllShortTexts(t *testing.T) {
	for _, x := range []struct{ head, bytes string }{{"", "pc 0\n"}, {"p cnf", " 01\n"}, {"p cnf 1 ", "01 \nc"}, {"c", " \nc\tp"}, {"p cnf 1 1", "\n1 0c"}, {"p cnf 10 1\n", "10- \n"}, {"p cnf 1 3\n1", "\n\t\r 0"}} {
		for n := range 7 {
			for _, part := range samples.AllLists(n, []byte(x.bytes)...) {
				parsedAsWords(t, x.head+string(part))
			}
		}
	}
}

// 14.2: each byte put in, put over another one, and taken out, at each place of a text.
func TestParseOfChangedBytes(t *testing.T) {
	const s = "c a\np cnf 10 3\n1 -10 0\nc\n\t0 7\n2 0\nc b"
	for at := range len(s) {
		parsedAsWords(t, s[:at]+s[at+1:])
		for b := range 256 {
			put := string([]byte{byte(b)})
			parsedAsWords(t, s[:at]+put+s[at:])
			parsedAsWords(t, s[:at]+put+s[at+1:])
		}
	}
}

// loosely is a text of a formula with blanks, lines' ends and comments put between its words, as pick says.
func loosely(f api.Cnf, pick func(n int) int) string {
	line, clauses, _ := strings.Cut(printOf(f), "\n")
	var b strings.Builder
	for range pick(3) {
		b.WriteString("c" + [...]string{"", " ", " x 1 0"}[pick(3)] + "\n")
	}
	b.WriteString(line)
	gap := "\n"
	for _, word := range strings.Fields(clauses) {
		b.WriteString(gap + word)
		gap = [...]string{" ", " ", " ", "\t", "\r\n", "\n", " \n\n ", "\nc\n", "\nc 1 0\n\t"}[pick(9)]
	}
	b.WriteString([...]string{"", "\n", "\nc", "\nc x\n", " \n"}[pick(5)])
	if len(f.Clauses) == 0 {
		return line
	}
	return b.String()
}

// 14.2: texts by chance, most of them changed: each error comes.
func TestParseByChance(t *testing.T) {
	r := rand.New(rand.NewSource(142))
	seen := map[api.Errno]int{}
	for range 60000 {
		s := loosely(samples.Formula(r.Intn(12), r.Intn(6), r.Intn), r.Intn)
		for range r.Intn(3) {
			s = samples.Changed(s, "0123-+ \n\tcpx9", r.Intn)
		}
		seen[parsedAsWords(t, s)]++
	}
	for _, e := range []api.Errno{api.OK, api.ErrProblem, api.ErrForm, api.ErrVar, api.ErrCount} {
		if seen[e] < 2000 {
			t.Errorf("%v came but %d times", e, seen[e])
		}
	}
}

// P1: texts of any bytes, and great ones of one thing again and again.
func TestParseOfAnyBytes(t *testing.T) {
	r := rand.New(rand.NewSource(143))
	for range 20000 {
		b := make([]byte, r.Intn(40))
		for i := range b {
			b[i] = byte(r.Intn(256))
			if r.Intn(2) == 0 {
				b[i] = "01- \nc"[r.Intn(6)]
			}
		}
		parsedAsWords(t, string(b))
		parsedAsWords(t, "p cnf 1 2\n"+string(b))
	}
	for _, part := range []string{"\n", "0 ", "1 ", "c\n", "c", " ", "1 0 ", "x", "-", "0", "9", "p cnf 0 0\n", "c x\n0\n"} {
		s := strings.Repeat(part, api.MaxText/len(part))
		parsedAsWords(t, s)
		parsedAsWords(t, ("p cnf 1 70000\n" + s)[:api.MaxText])
		parsedAsWords(t, ("p cnf 1 1\n1\n" + s)[:api.MaxText])
	}
}
