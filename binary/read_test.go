package binary_test

import (
	"math/rand"
	"runtime"
	"slices"
	"strings"
	"testing"

	"trestle/api"
	"trestle/binary"
	"trestle/samples"
)

// 5.1: the chapter's examples, and the whole's example 6.
func TestReadByExample(t *testing.T) {
	reads(t, "aig 1 0 1 0 0 1\n3\n2\n", api.Circuit{Max: 1, Latches: []api.Latch{{Lit: 2, Next: 3}}, Bads: []int{2}})
	reads(t, "aig 3 2 0 1 1\n7\n\x02\x02", api.Circuit{Max: 3, Inputs: []int{2, 4}, Outputs: []int{7}, Ands: []api.And{{Out: 6, Left: 4, Right: 2}}})
	refuses(t, "aig 3 2 0 0 1\n\x00\x02", 14, api.ErrDelta)
	refuses(t, "aig 3 2 0 0 1\n\x07\x00", 14, api.ErrDelta)
	refuses(t, "aig 3 2 0 0 1\n\x02\x05", 15, api.ErrDelta)
	refuses(t, "aig 3 2 0 0 1\n\x02", 15, api.ErrDelta)
	refuses(t, "aig 3 1 0 0 1\n", 0, api.ErrCount)
}

// 5.1: a text with something of all that there may be, and texts with next to nothing in them.
func TestReadOfAllLists(t *testing.T) {
	reads(t, allOf(), full())
	for _, s := range []string{"aig 0 0 0 0 0\n", "aig 0 0 0 0 0 0\n", "aig 0 0 0 0 0 0 0 0 0\n", "aig 0 0 0 0 0\nc\n"} {
		reads(t, s, api.Circuit{})
	}
	reads(t, "aig 3 3 0 0 0\n", api.Circuit{Max: 3, Inputs: []int{2, 4, 6}})
	reads(t, "aig 0 0 0 1 0\n1\n", api.Circuit{Outputs: []int{1}})
	reads(t, "aig 0 0 0 0 0 1\n0\n", api.Circuit{Bads: []int{0}})
	reads(t, "aig 0 0 0 0 0 0 1\n1\n", api.Circuit{Constraints: []int{1}})
	reads(t, "aig 0 0 0 0 0 0 0 2\n0\n0\n", api.Circuit{Justice: [][]int{{}, {}}})
	reads(t, "aig 0 0 0 0 0 0 0 3 1\n0\n2\n1\n0\n1\n1\n0\n", api.Circuit{Justice: [][]int{{}, {0, 1}, {1}}, Fairness: []int{0}})
	reads(t, "aig 0 0 0 0 0 0 0 0 1\n1\n", api.Circuit{Fairness: []int{1}})
	reads(t, "aig 1 0 0 0 1\n\x01\x00", api.Circuit{Max: 1, Ands: []api.And{{Out: 2, Left: 1, Right: 1}}})
	reads(t, "aig 1 0 0 0 1\n\x01\x01", api.Circuit{Max: 1, Ands: []api.And{{Out: 2, Left: 1, Right: 0}}})
}

// 5.1: what Head refuses, a text of nothing among it.
func TestReadOfNoHeader(t *testing.T) {
	for _, s := range []string{
		"", "\n", "a", "aig", "aig\n", "aig 0 0 0 0\n", "aig 0 0 0 0 0", "aig 0 0 0 0 0 0 0 0 0 0\n", " aig 0 0 0 0 0\n", "aig 0 0 0 0 0 \n", "aig  0 0 0 0 0\n", "aig 00 0 0 0 0\n",
		"aig 0 0 0 0 2147483648\n", "AIG 0 0 0 0 0\n", "aog 0 0 0 0 0\n", "ai 0 0 0 0 0\n", "aigg 0 0 0 0 0\n", "\x00", "3\n2\n",
	} {
		refuses(t, s, 0, api.ErrHeader)
	}
	for _, s := range []string{"aig 0 0 0 0 2147483647\n", "aig 16385 16385 0 0 0\n", "aig 0 0 0 16385 0\n", "aig 0 1 0 0 0\n", "aig 16384 16384 0 0 1\n"} {
		refuses(t, s, 0, api.ErrCount)
	}
}

// 5.1: the word of the other format: ahead of M that is too great, behind what Head refuses; whatever stands behind.
func TestReadOfOtherWord(t *testing.T) {
	for _, rest := range []string{"", "x\n", "x", "\x02\x02", "2\n"} {
		for _, line := range []string{"aag 0 0 0 0 0\n", "aag 1 1 0 0 0\n", "aag 5 1 0 0 0\n", "aag 16384 0 0 0 0\n"} {
			refuses(t, line+rest, 0, api.ErrHeader)
		}
		refuses(t, "aag 1 1 1 0 0\n"+rest, 0, api.ErrCount)
		refuses(t, "aag 1 1 1 0\n"+rest, 0, api.ErrHeader)
	}
	refuses(t, strings.Replace(allOf(), "aig", "aag", 1), 0, api.ErrHeader)
}

// 5.1: M of one less, of just I + L + A, of one more, of many more, with what must stand behind it.
func TestReadOfGreatestVariable(t *testing.T) {
	for x := range 4 * 4 * 4 {
		inputs, latches, gates := x%4, x/4%4, x/16
		rest := strings.Repeat("0\n", latches) + strings.Repeat("\x01\x00", gates)
		for by := -3; by <= 12; by++ {
			most := inputs + latches + gates + by
			if most < 0 {
				continue
			}
			s := "aig " + samples.Numbers(most, inputs, latches, 0, gates) + "\n" + rest
			if by != 0 {
				refuses(t, s, 0, api.ErrCount)
			} else if f := sameAsWords(t, s); f.Code != api.OK {
				t.Fatalf("%q: %v", s, f)
			}
		}
	}
	for _, rest := range []string{"", "x\n", "x", "\x00\x00"} {
		refuses(t, "aig 16384 16383 0 0 0\n"+rest, 0, api.ErrCount)
		refuses(t, "aig 16384 0 0 0 0\n"+rest, 0, api.ErrCount)
		refuses(t, "aig 16384 0 16384 0 1\n"+rest, 0, api.ErrCount)
	}
	reads(t, "aig 16384 16384 0 0 0\n", api.Circuit{Max: api.MaxVar, Inputs: inputsTo(2 * api.MaxVar)})
}

// 5.1: latches of no, one, two and three numbers, with resets of each kind.
func TestReadOfLatches(t *testing.T) {
	text := func(line string) string { return "aig 3 1 2 0 0\n2\n" + line + "\n" }
	want := func(next, reset int) api.Circuit {
		return api.Circuit{Max: 3, Inputs: []int{2}, Latches: []api.Latch{{Lit: 4, Next: 2}, {Lit: 6, Next: next, Reset: reset}}}
	}
	for next := range 8 {
		reads(t, text(samples.Numbers(next)), want(next, 0))
		for _, reset := range []int{0, 1, 6} {
			reads(t, text(samples.Numbers(next, reset)), want(next, reset))
		}
		for _, reset := range []int{2, 3, 4, 5, 7, 8, 1<<31 - 1} {
			refuses(t, text(samples.Numbers(next, reset)), 0, api.ErrReset)
		}
	}
	refuses(t, text("8"), 0, api.ErrLit)
	refuses(t, text("2147483647"), 0, api.ErrLit)
	for _, line := range []string{"", " ", "6 2 0", "2 0 0", "2 0 0 0", "2 ", " 2", "2 0 ", "2  0", "2 x", "2 00", "2 2147483648", "2147483648"} {
		refuses(t, text(line), 16, api.ErrLine)
	}
	refuses(t, "aig 1 0 1 0 0\n"+strings.Repeat("2 ", 100000)+"\n", 14, api.ErrLine)
	refuses(t, "aig 1 0 1 0 0\n"+strings.Repeat("0", 200000)+"\n", 14, api.ErrLine)
}

// 5.1: each line with as many numbers as may not be.
func TestReadOfCountsOfNumbers(t *testing.T) {
	for i, l := range fullBody() {
		for n := range 5 {
			body := fullBody()
			told := strings.Fields(l.text + " 0 0 0 0")[:n]
			body[i].text = strings.Join(told, " ")
			s := fullText(body, fullGates(), fullEnd())
			if n < 1 || n > l.most {
				refuses(t, s, lineAt(body, i), api.ErrLine)
			} else if f := sameAsWords(t, s); f != (api.Fault{}) {
				t.Fatalf("the line %d of %d numbers: %v", i, n, f)
			}
		}
	}
}

// 5.1, R6: each line in forms in which it may not stand; its place is told.
func TestReadOfWrongLines(t *testing.T) {
	for i, l := range fullBody() {
		for _, wrong := range samples.WrongLines(l.text) {
			body := fullBody()
			body[i].text = wrong
			s := fullText(body, fullGates(), fullEnd())
			if strings.Contains(wrong, "\n") {
				// Two right lines: the place is that of a line behind them.
				sameAsWords(t, s)
				continue
			}
			refuses(t, s, lineAt(body, i), api.ErrLine)
		}
	}
}

// 5.1, R1: of two wrong lines the first one is told.
func TestReadOfTwoWrongLines(t *testing.T) {
	for i := range fullBody() {
		for k := range i {
			body := fullBody()
			body[i].text, body[k].text = "x", " 0"
			refuses(t, fullText(body, fullGates(), fullEnd()), lineAt(body, k), api.ErrLine)
		}
	}
}

// 5.1: numbers at their limit are lines as they must be: what they are as literals is layer 3's matter.
func TestReadOfGreatNumbers(t *testing.T) {
	const most = "2147483647"
	for s, want := range map[string]api.Errno{
		"aig 1 0 1 0 0\n" + most + "\n": api.ErrLit, "aig 1 0 1 0 0\n0 " + most + "\n": api.ErrReset,
		"aig 0 0 0 1 0\n" + most + "\n": api.ErrLit, "aig 0 0 0 0 0 1\n" + most + "\n": api.ErrLit, "aig 0 0 0 0 0 0 1\n" + most + "\n": api.ErrLit,
		"aig 0 0 0 0 0 0 0 1\n1\n" + most + "\n": api.ErrLit, "aig 0 0 0 0 0 0 0 0 1\n" + most + "\n": api.ErrLit,
		"aig 0 0 0 0 0\ni" + most + " x\n": api.ErrSymbol,
	} {
		refuses(t, s, 0, want)
		at := strings.Index(s, "\n") + 1
		if strings.Contains(s, "\n1\n") {
			at += len("1\n")
		}
		refuses(t, strings.Replace(s, most, "2147483648", 1), at, api.ErrLine)
	}
}

// 5.1: how many literals justice properties have: none, as many as there may be, one more, and long sums of these.
func TestReadOfJustice(t *testing.T) {
	const n = api.MaxItems
	text := func(sizes []int, literals int) string {
		s := "aig 0 0 0 0 0 0 0 " + samples.Numbers(len(sizes)) + "\n"
		for _, size := range sizes {
			s += samples.Numbers(size) + "\n"
		}
		return s + strings.Repeat("1\n", literals)
	}
	ones := slices.Repeat([]int{1}, n)
	reads(t, text([]int{0}, 0), api.Circuit{Justice: [][]int{{}}})
	reads(t, text([]int{n}, n), api.Circuit{Justice: [][]int{ones}})
	reads(t, text([]int{0, n - 2, 0, 2}, n), api.Circuit{Justice: [][]int{{}, ones[2:], {}, ones[:2]}})
	reads(t, text(ones, n), api.Circuit{Justice: slices.Repeat([][]int{{1}}, n)})
	refuses(t, text([]int{n, 1}, n+1), 0, api.ErrLong)
	refuses(t, text([]int{n, n, n, n, n, n, n}, 7*n), 0, api.ErrLong)
	for _, sizes := range [][]int{{n + 1}, {n + 1, 0}, {n, n + 1}, {0, 0, n + 1, n + 1}} {
		i := slices.Index(sizes, n+1)
		refuses(t, text(sizes, 2), len(text(sizes[:i], 0)), api.ErrLine)
	}
	for _, sizes := range [][]int{{1}, {n}, {n, n}, {0, 0, 3}} {
		s := text(sizes, 0)
		refuses(t, s, len(s), api.ErrLine)
		refuses(t, s+"1\nx\n1\n", len(s)+2, api.ErrLine)
	}
}

// 5.1, P1: a sum of justice that is far above what a text can hold costs no more than the text.
func TestReadOfGreatSums(t *testing.T) {
	sizes := strings.Repeat("16384\n", api.MaxItems)
	s := "aig 0 0 0 0 0 0 0 16384\n" + sizes + strings.Repeat("0\n", 3*api.MaxItems)
	var before, after runtime.MemStats
	runtime.ReadMemStats(&before)
	if _, f := binary.Read(s); f != (api.Fault{At: len(s), Code: api.ErrLine}) {
		t.Fatal(f)
	}
	runtime.ReadMemStats(&after)
	if spent := after.TotalAlloc - before.TotalAlloc; spent > 100<<20 {
		t.Errorf("%d bytes", spent)
	}
}

// 5.1: a text that ends ahead of its time: behind a line its length is told, within a line that line's place; within gates and behind them the place of the number, of the line.
func TestReadOfCutTexts(t *testing.T) {
	s := allOf()
	head, lines, gates := len(fullHeader)+1, len(fullText(fullBody(), nil, nil)), len(fullText(fullBody(), fullGates(), nil))
	for n := range len(s) {
		cut := s[:n]
		lineAt := strings.LastIndex(cut, "\n") + 1
		switch {
		case n < head:
			refuses(t, cut, 0, api.ErrHeader)
		case n < lines:
			refuses(t, cut, lineAt, api.ErrLine)
		case n < gates:
			// All of its numbers have one byte.
			refuses(t, cut, n, api.ErrDelta)
		case n > gates && n != lineAt:
			refuses(t, cut, max(lineAt, gates), api.ErrLine)
		default:
			if f := sameAsWords(t, cut); f.Code != api.OK {
				t.Fatalf("%s: %v", samples.Short(cut), f)
			}
		}
	}
	refuses(t, "aig 1 0 1 0 0\n", 14, api.ErrLine)
	refuses(t, "aig 1 0 1 0 0\n2", 14, api.ErrLine)
	refuses(t, "aig 2 0 2 0 0\n2\n4", 16, api.ErrLine)
	refuses(t, "aig 2 0 2 0 0\n2\n", 16, api.ErrLine)
	refuses(t, "aig 1 0 0 1 1\n", 14, api.ErrLine)
	refuses(t, "aig 1 0 0 1 1\n2", 14, api.ErrLine)
	refuses(t, "aig 1 0 0 1 1\n2\n", 16, api.ErrDelta)
	// A line is missing, and the gates stand in its place, with a line's end and without one.
	refuses(t, "aig 1 0 0 1 1\n\x02\x00", 14, api.ErrLine)
	refuses(t, "aig 1 0 0 1 1\n\x02\x00c\n", 14, api.ErrLine)
}

// 5.1: each count of the header one less and one more; M goes with it, or not.
func TestReadOfOtherCounts(t *testing.T) {
	counts := []int{9, 2, 4, 2, 3, 1, 2, 3, 2}
	for i := range counts {
		for by := -1; by <= 1; by++ {
			for most := -1; most <= 1; most++ {
				other := slices.Clone(counts)
				other[i] += by
				other[0] += most
				s := strings.Replace(allOf(), fullHeader, "aig "+samples.Numbers(other...), 1)
				if f := sameAsWords(t, s); slices.Equal(other, counts) != (f.Code == api.OK) {
					t.Errorf("%v: %v", other, f)
				}
			}
		}
	}
}

// 5.1: what layer 3 refuses, without its number; a wrong line, a wrong gate and a wrong end go ahead of it.
func TestReadOfWrongCircuits(t *testing.T) {
	long := strings.Repeat("n", api.MaxName)
	for s, want := range map[string]api.Errno{
		"aig 2 1 0 1 1\n6\n\x02\x02": api.ErrLit, "aig 2 1 1 0 0\n6\n": api.ErrLit, "aig 2 1 1 0 0\n2 3\n": api.ErrReset, "aig 2 1 1 0 0\n2 5\n": api.ErrReset,
		"aig 1 1 0 0 0 1\n4\n": api.ErrLit, "aig 1 1 0 0 0 0 1\n4\n": api.ErrLit, "aig 1 1 0 0 0 0 0 1\n1\n4\n": api.ErrLit, "aig 1 1 0 0 0 0 0 0 1\n4\n": api.ErrLit,
		"aig 1 1 0 0 0\ni0 x\ni1 x\n": api.ErrSymbol, "aig 1 1 0 0 0\ni0 x\ni0 y\n": api.ErrSymbol, "aig 1 1 0 0 0\nl0 x\n": api.ErrSymbol,
		"aig 1 1 0 0 0\ni0 x\r\n": api.ErrSymbol, "aig 1 1 0 0 0\ni0 " + long + "n\n": api.ErrSymbol,
	} {
		refuses(t, s, 0, want)
		refuses(t, s+"c\n\n", 0, want)
		refuses(t, s+"x\n", len(s), api.ErrLine)
	}
	reads(t, "aig 1 1 0 0 0\ni0 "+long+"\n", api.Circuit{Max: 1, Inputs: []int{2}, Symbols: []api.Symbol{{Kind: 'i', Name: long}}})
	refuses(t, "aig 2 1 0 1 1\n6\n\x00\x02", 16, api.ErrDelta)
	refuses(t, "aig 2 1 1 1 0\n2 3\nx\n", 18, api.ErrLine)
}

// 5.1: lists of as many members as may be, and of one more where the header does not say how many: then layer 3 refuses them.
func TestReadOfLongLists(t *testing.T) {
	const n = api.MaxItems
	zeros := make([]int, n)
	reads(t, "aig 0 0 0 16384 0\n"+strings.Repeat("0\n", n), api.Circuit{Outputs: zeros})
	reads(t, "aig 0 0 0 0 0 16384\n"+strings.Repeat("0\n", n), api.Circuit{Bads: zeros})
	reads(t, "aig 0 0 0 0 0 0 16384\n"+strings.Repeat("0\n", n), api.Circuit{Constraints: zeros})
	reads(t, "aig 0 0 0 0 0 0 0 16384\n"+strings.Repeat("0\n", n), api.Circuit{Justice: make([][]int, n)})
	reads(t, "aig 0 0 0 0 0 0 0 0 16384\n"+strings.Repeat("0\n", n), api.Circuit{Fairness: zeros})
	reads(t, "aig 0 0 0 0 0\nc\n"+strings.Repeat("\n", n), api.Circuit{Comments: make([]string, n)})
	refuses(t, "aig 0 0 0 0 0\nc\n"+strings.Repeat("\n", n+1), 0, api.ErrLong)
	refuses(t, "aig 1 1 0 0 0\n"+strings.Repeat("i0 x\n", n+1), 0, api.ErrLong)
	refuses(t, "aig 1 1 0 0 0\n"+strings.Repeat("i0 x\n", n), 0, api.ErrSymbol)
	latches, gates := api.Circuit{Max: n}, api.Circuit{Max: n}
	for i := range n {
		latches.Latches = append(latches.Latches, api.Latch{Lit: 2*i + 2, Next: 1, Reset: 2*i + 2})
		gates.Ands = append(gates.Ands, api.And{Out: 2*i + 2, Left: 2 * i, Right: i})
	}
	for _, c := range []api.Circuit{latches, gates} {
		reads(t, samples.Bytes(c, samples.Least), c)
	}
}

// 5.1, R2: texts of as many bytes as may be, and of one more.
func TestReadOfLongTexts(t *testing.T) {
	s := "aig 0 0 0 0 0\nc\n"
	long := strings.Repeat("x", api.MaxText-len(s)-1)
	reads(t, s+long+"\n", api.Circuit{Comments: []string{long}})
	refuses(t, s+long+"x\n", 0, api.ErrLong)
	refuses(t, s+long+"x", len(s), api.ErrLine)
	refuses(t, s+long+"xx", 0, api.ErrLong)
	refuses(t, strings.Repeat("\n", api.MaxText), 0, api.ErrHeader)
	refuses(t, strings.Repeat("\n", api.MaxText+1), 0, api.ErrLong)
}

// 5.1: a full text with each byte taken out, and others put in and put over it, at each place: Read says what the chapter's words say.
func TestReadOfChangedBytes(t *testing.T) {
	s := allOf()
	for at := range len(s) {
		sameAsWords(t, s[:at]+s[at+1:])
		for _, b := range "\n 0129acix-+\r\x00\x01\x7f" {
			sameAsWords(t, s[:at]+string(b)+s[at:])
			sameAsWords(t, s[:at]+string(b)+s[at+1:])
		}
		sameAsWords(t, s[:at]+"\x80"+s[at:])
		sameAsWords(t, s[:at]+"\xff"+s[at+1:])
	}
}

// 5.1: texts of circuits by chance are read as these; with bytes or lines changed, as the chapter's words say.
func TestReadByChance(t *testing.T) {
	r := rand.New(rand.NewSource(51))
	seen := map[api.Errno]int{}
	for range 5000 {
		c := binaryOf(t, samples.Circuit(r.Intn))
		s := samples.Bytes(c, r.Intn)
		reads(t, s, c)
		for range 4 {
			for range 1 + r.Intn(2) {
				s = samples.Changed(s, "\n\n  0123456789aci-x\r\xff\x80\x00\x01\x02", r.Intn)
			}
			seen[sameAsWords(t, s).Code]++
			s = samples.Bytes(c, r.Intn)
		}
	}
	for _, e := range []api.Errno{api.OK, api.ErrHeader, api.ErrCount, api.ErrLine, api.ErrDelta, api.ErrLit, api.ErrReset, api.ErrSymbol} {
		if seen[e] < 10 {
			t.Errorf("%v came but %d times", e, seen[e])
		}
	}
	// What the binary format can't tell.
	for _, e := range []api.Errno{api.ErrTwice, api.ErrLoose, api.ErrCycle} {
		if seen[e] > 0 {
			t.Errorf("%v came", e)
		}
	}
}
