package ascii_test

import (
	"math/rand"
	"strings"
	"testing"

	"trestle/api"
	"trestle/samples"
)

var (
	noHeader = api.Fault{Code: api.ErrHeader}
	noCount  = api.Fault{Code: api.ErrCount}
	tooLong  = api.Fault{Code: api.ErrLong}
)

// 4.1: the chapter's examples, and what stands behind a header, which is not looked at.
func TestHeadByExample(t *testing.T) {
	heads(t, "aag 1 0 1 0 0 1\n2 3\n2\n", "aag", []int{1, 0, 1, 0, 0, 1, 0, 0, 0}, 16, api.Fault{})
	heads(t, "aag 3 2 0 1 1\n2\n4\n6\n6 4 2\n", "aag", []int{3, 2, 0, 1, 1, 0, 0, 0, 0}, 14, api.Fault{})
	heads(t, "aag 0 0 0 0\n", "", nil, 0, noHeader)
	heads(t, "aag 1 1 1 0 0\n", "", nil, 0, noCount)
	for _, rest := range []string{"", "\n", " ", "aag 0 0 0 0\n", "x", allBytes()} {
		heads(t, "aig 1 0 1 0 0 1\n"+rest, "aig", []int{1, 0, 1, 0, 0, 1, 0, 0, 0}, 16, api.Fault{})
	}
}

// 4.1: headers of each count of numbers, in the order in which they stand.
func TestHeadOfEachLength(t *testing.T) {
	all := []int{60, 11, 12, 13, 14, 15, 16, 17, 18, 19, 20}
	for _, word := range []string{"aag", "aig"} {
		for n := range all {
			line := word + " " + samples.Numbers(all[:n]...) + "\n"
			if n < 5 || n > 9 {
				heads(t, line, "", nil, 0, noHeader)
				continue
			}
			want := make([]int, 9)
			copy(want, all[:n])
			heads(t, line, word, want, len(line), api.Fault{})
		}
		heads(t, word+"\n", "", nil, 0, noHeader)
		heads(t, word+strings.Repeat(" 0", 1000)+"\n", "", nil, 0, noHeader)
	}
}

// 4.1: a text that does not begin with a header.
func TestHeadOfNoHeader(t *testing.T) {
	for _, s := range []string{
		"", "\n", " ", "a", "aag", "aag\n", "aag \n", "aag 0 0 0 0 0", "aig 0 0 0 0 0", "aag 0 0 0 0 0 ", "aag 0 0 0 0 0\r",
		" aag 0 0 0 0 0\n", "\naag 0 0 0 0 0\n", "aag 0 0 0 0 0 \n", "aag  0 0 0 0 0\n", "aag 0  0 0 0 0\n", "aag 0 0 0 0  0\n", "aag 0 0 0 0\n0\n", "aag\n0 0 0 0 0\n",
		"aag\t0 0 0 0 0\n", "aag 0\t0 0 0 0\n", "aag 0 0 0 0 0\t\n", "aag 0 0 0 0 0\r\n", "aag 0 0 0 0 0\x00\n", "aag 0 0\xa00 0 0 0\n", "aag0 0 0 0 0\n", "aag 0 0 0 0 0 x\n", "aag 0 0 x 0 0\n",
		"AAG 0 0 0 0 0\n", "Aag 0 0 0 0 0\n", "aga 0 0 0 0 0\n", "aa 0 0 0 0 0\n", "ag 0 0 0 0 0\n", "aagg 0 0 0 0 0\n", "aaig 0 0 0 0 0\n", "abg 0 0 0 0 0\n", "cnf 0 0 0 0 0\n", "0 0 0 0 0\n", " 0 0 0 0 0\n", "0 0 0 0 0 0\n",
		"c\naag 0 0 0 0 0\n", "aag 0 0 0 0 0 0 0 0 0 0\n", "aag 0 0 0 0 0 0 0 0 0 \n",
	} {
		heads(t, s, "", nil, 0, noHeader)
		refuses(t, s, 0, api.ErrHeader)
	}
}

// 4.1, R6: numbers as they may stand, and as they may not, at each place of the shortest and the longest header.
func TestHeadOfNumbers(t *testing.T) {
	for _, n := range []int{5, 9} {
		for at := range n {
			for digits, want := range map[string]api.Fault{
				"0": {}, "7": {}, "10": {}, "2147483647": noCount, "2147483648": noHeader, "2147483650": noHeader, "9999999999": noHeader,
				"4294967296": noHeader, "18446744073709551616": noHeader, "18446744073709551617": noHeader, strings.Repeat("9", 1000): noHeader, "1" + strings.Repeat("0", 20000): noHeader,
				"00": noHeader, "01": noHeader, "007": noHeader, "0000000000000000000000001": noHeader, "+5": noHeader, "-0": noHeader, "-1": noHeader, "": noHeader, "0x1": noHeader, "1_0": noHeader,
				"1e1": noHeader, "1.0": noHeader, "x": noHeader, "１": noHeader, "1\v": noHeader, "1,": noHeader, "/": noHeader, ":": noHeader,
			} {
				told := strings.Fields(strings.Repeat("0 ", n))
				told[0], told[at] = "30", digits
				line := "aag " + strings.Join(told, " ") + "\n"
				word, counts, end, f := headOf(line)
				if f != want {
					t.Fatalf("%s: the words say %v, want %v", samples.Short(line), f, want)
				}
				heads(t, line, word, counts, end, f)
			}
		}
	}
}

// 4.1: each count at its limit and one above.
func TestHeadOfLimits(t *testing.T) {
	limits := []int{api.MaxVar, api.MaxItems, api.MaxItems, api.MaxItems, api.MaxItems, api.MaxItems, api.MaxItems, api.MaxItems, api.MaxItems}
	for i, most := range limits {
		counts := make([]int, 9)
		counts[0] = api.MaxVar
		counts[i] = most
		line := "aag " + samples.Numbers(counts...) + "\n"
		heads(t, line, "aag", counts, len(line), api.Fault{})
		for _, above := range []int{most + 1, most + 2, 2 * most, 1<<31 - 1} {
			counts[i] = above
			heads(t, "aag "+samples.Numbers(counts...)+"\n", "", nil, 0, noCount)
			heads(t, "aig "+samples.Numbers(counts...)+"\n", "", nil, 0, noCount)
			refuses(t, "aig "+samples.Numbers(counts...)+"\n", 0, api.ErrCount)
		}
	}
}

// 4.1: inputs, latches and gates as many as the greatest variable, and one more; the other counts do not go with it.
func TestHeadOfSums(t *testing.T) {
	for most := range 7 {
		for x := range 5 * 5 * 5 {
			counts := []int{most, x % 5, x / 5 % 5, 9, x / 25, 9, 9, 9, 9}
			line := "aig " + samples.Numbers(counts...) + "\n"
			if x%5+x/5%5+x/25 > most {
				heads(t, line, "", nil, 0, noCount)
			} else {
				heads(t, line, "aig", counts, len(line), api.Fault{})
			}
		}
	}
	heads(t, "aag 16384 16384 1 0 0\n", "", nil, 0, noCount)
	heads(t, "aag 16384 0 16384 0 1\n", "", nil, 0, noCount)
	heads(t, "aag 16384 16384 16384 0 16384\n", "", nil, 0, noCount)
	heads(t, "aag 2147483647 2147483647 2147483647 0 2147483647\n", "", nil, 0, noCount)
}

// 4.1, R1: what is named first is answered: too long a text, then no header, then wrong counts.
func TestHeadInOrder(t *testing.T) {
	right := "aag 0 0 0 0 0\n"
	fill := func(s string, n int) string { return s + strings.Repeat("x", n-len(s)) }
	heads(t, fill(right, api.MaxText), "aag", make([]int, 9), len(right), api.Fault{})
	heads(t, fill("aag 0 0 0 0 1\n", api.MaxText), "", nil, 0, noCount)
	heads(t, fill("", api.MaxText), "", nil, 0, noHeader)
	for _, s := range []string{right, "", "aag 0 0 0 0 1\n", "aag 0 0 0 0\n", "aig 0 0 0 0 0\n"} {
		heads(t, fill(s, api.MaxText+1), "", nil, 0, tooLong)
		heads(t, fill(s, 2*api.MaxText), "", nil, 0, tooLong)
		refuses(t, fill(s, api.MaxText+1), 0, api.ErrLong)
	}
	heads(t, "aag 0 1 0 0 00\n", "", nil, 0, noHeader)
	heads(t, "aag 99999 0 0 0 0", "", nil, 0, noHeader)
	heads(t, "agg 0 1 0 0 0\n", "", nil, 0, noHeader)
	heads(t, "aag 99999 0 0 2147483648 0\n", "", nil, 0, noHeader)
}

// 4.1: headers with each byte put in, put over another one, and one taken out, at each place: Head says what the chapter's words say.
func TestHeadOfChangedBytes(t *testing.T) {
	for _, s := range []string{"aag 9 0 1 0 0\n", "aig 20 1 2 3 4 5 6 7 8\n3\n"} {
		for at := range len(s) {
			changed := []string{s[:at] + s[at+1:], s[:at]}
			for b := range 256 {
				changed = append(changed, s[:at]+string([]byte{byte(b)})+s[at:], s[:at]+string([]byte{byte(b)})+s[at+1:])
			}
			for _, c := range changed {
				word, counts, end, f := headOf(c)
				heads(t, c, word, counts, end, f)
			}
		}
	}
}

// 4.1: headers by chance, of words that may come in them.
func TestHeadByChance(t *testing.T) {
	r := rand.New(rand.NewSource(41))
	odd := []string{"0", "0", "16384", "16385", "2147483647", "2147483648", "01", "", "x", "\n", "-1"}
	seen := map[api.Errno]int{}
	for range 40000 {
		s := []string{"aag", "aig", "aag", "aig", "aog"}[r.Intn(5)]
		s += " " + samples.Numbers(r.Intn(12))
		for range 3 + r.Intn(8) {
			part := samples.Numbers(r.Intn(4))
			if r.Intn(12) == 0 {
				part = odd[r.Intn(len(odd))]
			}
			s += " " + part
		}
		s += "\n"
		word, counts, end, f := headOf(s)
		heads(t, s, word, counts, end, f)
		seen[f.Code]++
	}
	for _, e := range []api.Errno{api.OK, api.ErrHeader, api.ErrCount} {
		if seen[e] < 500 {
			t.Errorf("%v came but %d times", e, seen[e])
		}
	}
}
