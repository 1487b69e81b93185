package ascii_test

import (
	"math/rand"
	"runtime"
	"slices"
	"strings"
	"testing"

	"trestle/api"
	"trestle/ascii"
	"trestle/samples"
	"trestle/shape"
)

// 4.3: the chapter's examples.
func TestReadByExample(t *testing.T) {
	reads(t, "aag 1 0 1 0 0 1\n2 3\n2\n", api.Circuit{Max: 1, Latches: []api.Latch{{Lit: 2, Next: 3}}, Bads: []int{2}})
	reads(t, "aag 3 2 0 1 1\n2\n4\n6\n6 4 2\ni0 x\no0 and\nc\na comment\n", api.Circuit{
		Max: 3, Inputs: []int{2, 4}, Outputs: []int{6}, Ands: []api.And{{Out: 6, Left: 4, Right: 2}},
		Symbols: []api.Symbol{{Kind: 'i', At: 0, Name: "x"}, {Kind: 'o', At: 0, Name: "and"}}, Comments: []string{"a comment"},
	})
	refuses(t, "aag 0 0 0 0\n", 0, api.ErrHeader)
	refuses(t, "aag 1 1 1 0 0\n", 0, api.ErrCount)
	refuses(t, "aag 1 1 0 0 0\nx\n", 14, api.ErrLine)
	refuses(t, "aag 0 0 0 0 0\ni0\n", 14, api.ErrLine)
	refuses(t, "aag 0 0 0 1 0\n2\n", 0, api.ErrLit)
}

// 4.3: a text with something of all that there may be, and texts with nothing in them.
func TestReadOfAllLists(t *testing.T) {
	reads(t, fullText(fullBody(), fullEnd()), full())
	for _, s := range []string{"aag 0 0 0 0 0\n", "aag 0 0 0 0 0 0\n", "aag 0 0 0 0 0 0 0 0 0\n", "aag 0 0 0 0 0\nc\n"} {
		reads(t, s, api.Circuit{})
	}
	reads(t, "aag 16384 0 0 0 0\n", api.Circuit{Max: api.MaxVar})
	reads(t, "aag 0 0 0 1 0\n1\n", api.Circuit{Outputs: []int{1}})
	reads(t, "aag 0 0 0 0 0 1\n0\n", api.Circuit{Bads: []int{0}})
	reads(t, "aag 0 0 0 0 0 0 1\n1\n", api.Circuit{Constraints: []int{1}})
	reads(t, "aag 0 0 0 0 0 0 0 2\n0\n0\n", api.Circuit{Justice: [][]int{{}, {}}})
	reads(t, "aag 0 0 0 0 0 0 0 3 1\n0\n2\n1\n0\n1\n1\n0\n", api.Circuit{Justice: [][]int{{}, {0, 1}, {1}}, Fairness: []int{0}})
	reads(t, "aag 0 0 0 0 0 0 0 0 1\n1\n", api.Circuit{Fairness: []int{1}})
	reads(t, "aag 1 0 0 0 1\n2 1 0\n", api.Circuit{Max: 1, Ands: []api.And{{Out: 2, Left: 1, Right: 0}}})
}

// 4.3: the word of the other format, behind what Head refuses and ahead of the lines.
func TestReadOfOtherWord(t *testing.T) {
	for _, rest := range []string{"", "x\n", "x", "\x02\x02"} {
		refuses(t, "aig 0 0 0 0 0\n"+rest, 0, api.ErrHeader)
		refuses(t, "aig 1 1 0 0 0\n"+rest, 0, api.ErrHeader)
		refuses(t, "aig 1 1 1 0 0\n"+rest, 0, api.ErrCount)
		refuses(t, "aig 1 1 1 0\n"+rest, 0, api.ErrHeader)
	}
	refuses(t, strings.Replace(fullText(fullBody(), fullEnd()), "aag", "aig", 1), 0, api.ErrHeader)
	refuses(t, "aig 0 0 0 0 0\nc\n"+strings.Repeat("\n", api.MaxText), 0, api.ErrLong)
}

// 4.3: each line with as many numbers as may not be.
func TestReadOfCountsOfWords(t *testing.T) {
	for i, l := range fullBody() {
		for n := range 6 {
			body := fullBody()
			told := strings.Fields(l.text + " 0 0 0 0 0")[:n]
			body[i].text = strings.Join(told, " ")
			s := fullText(body, fullEnd())
			if n < l.least || n > l.most {
				refuses(t, s, placeOf(body, i), api.ErrLine)
			} else if f := sameAsWords(t, s); f != (api.Fault{}) {
				t.Fatalf("the line %d of %d words: %v", i, n, f)
			}
		}
	}
	refuses(t, "aag 1 1 0 0 0\n"+strings.Repeat("2 ", 100000)+"\n", 14, api.ErrLine)
	refuses(t, "aag 1 1 0 0 0\n"+strings.Repeat(" ", 200000)+"\n", 14, api.ErrLine)
}

// 4.3, R6: each line in forms in which it may not stand; its place is told.
func TestReadOfWrongLines(t *testing.T) {
	for i, l := range fullBody() {
		for _, wrong := range samples.WrongLines(l.text) {
			body := fullBody()
			body[i].text = wrong
			s := fullText(body, fullEnd())
			if f := sameAsWords(t, s); f != wrongLine(placeOf(body, i)) {
				t.Fatalf("the line %d is %q: %v", i, wrong, f)
			}
		}
	}
}

// 4.3, R1: of two wrong lines the first one is told; a wrong line goes ahead of a wrong end, and both ahead of a wrong circuit.
func TestReadOfTwoWrongLines(t *testing.T) {
	end := fullEnd()
	end[1] = "l0"
	endPlace := len(fullText(fullBody(), end[:1]))
	looseEnd := slices.Clone(fullEnd())
	looseEnd[0] = "i7 x"
	refuses(t, fullText(fullBody(), end), endPlace, api.ErrLine)
	refuses(t, fullText(fullBody(), looseEnd), 0, api.ErrSymbol)
	looseEnd[1] = "l0"
	refuses(t, fullText(fullBody(), looseEnd), endPlace, api.ErrLine)
	for i := range fullBody() {
		body := fullBody()
		body[i].text = "x"
		refuses(t, fullText(body, end), placeOf(body, i), api.ErrLine)
		refuses(t, fullText(body, fullEnd())+"no end", placeOf(body, i), api.ErrLine)
		refuses(t, strings.Replace(fullText(body, end), "aag 10 ", "aag 8 ", 1), 0, api.ErrCount)
		refuses(t, strings.Replace(fullText(body, end), "aag 10 ", "aag 010 ", 1), 0, api.ErrHeader)
		for k := range body[:i] {
			body[k].text = " 0"
			refuses(t, fullText(body, end), placeOf(body, k), api.ErrLine)
			body[k] = fullBody()[k]
		}
		// What layer 3 refuses, ahead of the wrong line, comes behind it.
		if i > 0 {
			body[0].text = "5"
			refuses(t, fullText(body, fullEnd()), placeOf(body, i), api.ErrLine)
		}
	}
	body := fullBody()
	body[0].text = "5"
	refuses(t, fullText(body, end), endPlace-len("4")+len("5"), api.ErrLine)
	refuses(t, fullText(body, fullEnd()), 0, api.ErrLit)
}

// 4.3: a text that ends ahead of its time: behind a line its length is told, within a line that line's place.
func TestReadOfCutTexts(t *testing.T) {
	s := fullText(fullBody(), fullEnd())
	head, body := len(fullHeader)+1, len(fullText(fullBody(), nil))
	for n := range len(s) {
		cut := s[:n]
		lineAt := strings.LastIndex(cut, "\n") + 1
		switch {
		case n < head:
			refuses(t, cut, 0, api.ErrHeader)
		case n < body || n != lineAt:
			refuses(t, cut, lineAt, api.ErrLine)
		default:
			if _, f := ascii.Read(cut); f != (api.Fault{}) {
				t.Fatalf("%s: %v", samples.Short(cut), f)
			}
		}
	}
	refuses(t, "aag 1 1 0 0 0\n", 14, api.ErrLine)
	refuses(t, "aag 1 1 0 0 0\n2", 14, api.ErrLine)
	refuses(t, "aag 2 2 0 0 0\n2\n4", 16, api.ErrLine)
	refuses(t, "aag 2 2 0 0 0\n2\n", 16, api.ErrLine)
	reads(t, "aag 2 2 0 0 0\n2\n4\n", api.Circuit{Max: 2, Inputs: []int{2, 4}})
}

// 4.3, 4.1: a line less of each kind than the header says, and a line more.
func TestReadOfOtherCounts(t *testing.T) {
	counts := []int{10, 2, 4, 2, 3, 1, 2, 3, 2}
	for i := range counts {
		for _, by := range []int{-1, 1} {
			other := slices.Clone(counts)
			other[i] += by
			s := strings.Replace(fullText(fullBody(), fullEnd()), fullHeader, "aag "+samples.Numbers(other...), 1)
			if f := sameAsWords(t, s); i > 0 && f.Code == api.OK {
				t.Errorf("%v is read", other)
			}
		}
	}
}

// 4.3: numbers at their limit are lines as they must be: what they are as literals is layer 3's matter.
func TestReadOfGreatNumbers(t *testing.T) {
	const most = "2147483647"
	for s, want := range map[string]api.Errno{
		"aag 1 1 0 0 0\n" + most + "\n": api.ErrLit, "aag 1 0 1 0 0\n" + most + " 0\n": api.ErrLit, "aag 1 0 1 0 0\n2 " + most + "\n": api.ErrLit, "aag 1 0 1 0 0\n2 0 " + most + "\n": api.ErrReset,
		"aag 0 0 0 1 0\n" + most + "\n": api.ErrLit, "aag 0 0 0 0 0 1\n" + most + "\n": api.ErrLit, "aag 0 0 0 0 0 0 1\n" + most + "\n": api.ErrLit,
		"aag 0 0 0 0 0 0 0 1\n1\n" + most + "\n": api.ErrLit, "aag 0 0 0 0 0 0 0 0 1\n" + most + "\n": api.ErrLit,
		"aag 1 0 0 0 1\n" + most + " 0 0\n": api.ErrLit, "aag 1 0 0 0 1\n2 " + most + " 0\n": api.ErrLit, "aag 1 0 0 0 1\n2 0 " + most + "\n": api.ErrLit,
		"aag 0 0 0 0 0\ni" + most + " x\n": api.ErrSymbol,
	} {
		refuses(t, s, 0, want)
		at := strings.Index(s, "\n") + 1
		if strings.Contains(s, "\n1\n") {
			at += len("1\n")
		}
		refuses(t, strings.Replace(s, most, "2147483648", 1), at, api.ErrLine)
	}
}

// 4.3: each error of layer 3 that a text can have, without its number.
func TestReadOfWrongCircuits(t *testing.T) {
	for s, want := range map[string]api.Errno{
		"aag 2 2 0 0 0\n2\n3\n": api.ErrLit, "aag 1 1 0 0 0\n0\n": api.ErrLit, "aag 2 0 0 1 0\n6\n": api.ErrLit,
		"aag 2 2 0 0 0\n2\n2\n": api.ErrTwice, "aag 2 1 1 0 0\n2\n2 0\n": api.ErrTwice,
		"aag 2 0 1 0 0\n2 0 4\n": api.ErrReset, "aag 2 0 1 0 0\n2 0 3\n": api.ErrReset,
		"aag 2 1 0 2 0\n2\n2\n4\n": api.ErrLoose, "aag 2 1 0 0 0 0 0 2\n2\n0\n1\n5\n": api.ErrLoose,
		"aag 3 1 0 0 2\n2\n4 6 2\n6 2 4\n": api.ErrCycle, "aag 2 1 0 0 1\n2\n4 4 2\n": api.ErrCycle,
		"aag 2 1 0 0 0\n2\ni0 x\ni1 x\n": api.ErrSymbol, "aag 2 1 0 0 0\n2\ni0 x\ni0 y\n": api.ErrSymbol, "aag 2 1 0 0 0\n2\nl0 x\n": api.ErrSymbol,
		"aag 2 1 0 0 0\n2\ni0 x\r\n": api.ErrSymbol, "aag 2 1 0 0 0\n2\ni0 " + strings.Repeat("n", 65) + "\n": api.ErrSymbol,
	} {
		refuses(t, s, 0, want)
		refuses(t, s+"c\n\n", 0, want)
		refuses(t, s+"x\n", len(s), api.ErrLine)
	}
	reads(t, "aag 2 1 0 0 0\n2\ni0 "+strings.Repeat("n", 64)+"\n", api.Circuit{Max: 2, Inputs: []int{2}, Symbols: []api.Symbol{{Kind: 'i', Name: strings.Repeat("n", 64)}}})
}

// 4.3: lists of as many members as may be, and of one more where the header does not say how many: then layer 3 refuses them.
func TestReadOfLongLists(t *testing.T) {
	const n = api.MaxItems
	zeros := make([]int, n)
	reads(t, "aag 0 0 0 16384 0\n"+strings.Repeat("0\n", n), api.Circuit{Outputs: zeros})
	reads(t, "aag 0 0 0 0 0 16384\n"+strings.Repeat("0\n", n), api.Circuit{Bads: zeros})
	reads(t, "aag 0 0 0 0 0 0 0 16384\n"+strings.Repeat("0\n", n), api.Circuit{Justice: make([][]int, n)})
	reads(t, "aag 0 0 0 0 0\nc\n"+strings.Repeat("\n", n), api.Circuit{Comments: make([]string, n)})
	refuses(t, "aag 0 0 0 0 0\nc\n"+strings.Repeat("\n", n+1), 0, api.ErrLong)
	refuses(t, "aag 1 1 0 0 0\n2\n"+strings.Repeat("i0 x\n", n+1), 0, api.ErrLong)
	refuses(t, "aag 1 1 0 0 0\n2\n"+strings.Repeat("i0 x\n", n), 0, api.ErrSymbol)
	latches := api.Circuit{Max: n}
	text := []string{"aag 16384 0 16384 0 0"}
	for i := range n {
		latches.Latches = append(latches.Latches, api.Latch{Lit: 2*i + 2, Next: 0})
		text = append(text, samples.Numbers(2*i+2, 0))
	}
	reads(t, samples.Lines(text...), latches)
}

// 4.3, R2: texts of as many bytes as may be, and of one more.
func TestReadOfLongTexts(t *testing.T) {
	s := "aag 0 0 0 0 0\nc\n"
	long := strings.Repeat("x", api.MaxText-len(s)-1)
	reads(t, s+long+"\n", api.Circuit{Comments: []string{long}})
	refuses(t, s+long+"x\n", 0, api.ErrLong)
	refuses(t, s+long+"x", len(s), api.ErrLine)
	refuses(t, s+long+"xx", 0, api.ErrLong)
	refuses(t, strings.Repeat("\n", api.MaxText), 0, api.ErrHeader)
	refuses(t, strings.Repeat("\n", api.MaxText+1), 0, api.ErrLong)
}

// 4.3: how many literals justice properties have: none, as many as there may be, one more, and long sums of these.
func TestReadOfJustice(t *testing.T) {
	const n = api.MaxItems
	text := func(sizes []int, literals int) string {
		s := "aag 0 0 0 0 0 0 0 " + samples.Numbers(len(sizes)) + "\n"
		for _, size := range sizes {
			s += samples.Numbers(size) + "\n"
		}
		return s + strings.Repeat("1\n", literals)
	}
	ones := slices.Repeat([]int{1}, n)
	reads(t, text([]int{0}, 0), api.Circuit{Justice: [][]int{{}}})
	reads(t, text([]int{n}, n), api.Circuit{Justice: [][]int{ones}})
	reads(t, text([]int{0, n - 2, 0, 2}, n), api.Circuit{Justice: [][]int{{}, ones[2:], {}, ones[:2]}})
	reads(t, text(ones, n), api.Circuit{Justice: slices.Repeat([][]int{{1}}, n)})
	refuses(t, text([]int{n, 1}, n+1), 0, api.ErrLong)
	refuses(t, text([]int{n, n}, 2*n), 0, api.ErrLong)
	refuses(t, text([]int{n, n, n, n, n, n, n}, 7*n), 0, api.ErrLong)
	for _, sizes := range [][]int{{n + 1}, {n + 1, 0}, {n, n + 1}, {0, 0, n + 1, n + 1}} {
		i := slices.Index(sizes, n+1)
		s := text(sizes, 2)
		refuses(t, s, len(text(sizes[:i], 0)), api.ErrLine)
	}
	for _, sizes := range [][]int{{1}, {n}, {n, n}, {0, 0, 3}} {
		s := text(sizes, 0)
		refuses(t, s, len(s), api.ErrLine)
		refuses(t, s+"1\nx\n1\n", len(s)+2, api.ErrLine)
	}
}

// 4.3, P1: a sum of justice that is far above what a text can hold costs no more than the text.
func TestReadOfGreatSums(t *testing.T) {
	sizes := strings.Repeat("16384\n", api.MaxItems)
	s := "aag 0 0 0 0 0 0 0 16384\n" + sizes + strings.Repeat("0\n", 3*api.MaxItems)
	var before, after runtime.MemStats
	runtime.ReadMemStats(&before)
	refuses(t, s, len(s), api.ErrLine)
	runtime.ReadMemStats(&after)
	if spent := after.TotalAlloc - before.TotalAlloc; spent > 100<<20 {
		t.Errorf("%d bytes", spent)
	}
}

// 4.3: a full text with each byte taken out, and others put in and put over it, at each place: Read says what the chapter's words say.
func TestReadOfChangedBytes(t *testing.T) {
	s := fullText(fullBody(), fullEnd())
	for at := range len(s) {
		sameAsWords(t, s[:at]+s[at+1:])
		for _, b := range "\n 0129acix-+\r\x00" {
			sameAsWords(t, s[:at]+string(b)+s[at:])
			sameAsWords(t, s[:at]+string(b)+s[at+1:])
		}
	}
}

// 4.3: texts of circuits by chance are read as these; with bytes or lines changed, as the chapter's words say.
func TestReadByChance(t *testing.T) {
	r := rand.New(rand.NewSource(43))
	seen := map[api.Errno]int{}
	for range 6000 {
		c := samples.Circuit(r.Intn)
		s := samples.Text(c, r.Intn)
		reads(t, s, c)
		for range 4 {
			for range 1 + r.Intn(2) {
				s = samples.Changed(s, "\n\n  0123456789aci-x\r\xff", r.Intn)
			}
			seen[sameAsWords(t, s).Code]++
			s = samples.Text(c, r.Intn)
		}
	}
	for _, e := range []api.Errno{api.OK, api.ErrHeader, api.ErrCount, api.ErrLine, api.ErrLit, api.ErrTwice, api.ErrReset, api.ErrLoose, api.ErrCycle, api.ErrSymbol} {
		if seen[e] < 10 {
			t.Errorf("%v came but %d times", e, seen[e])
		}
	}
}

// 4.4: what is read is right; without its end, or with another one, it has the same latches, gates and properties.
func TestEndsOfTexts(t *testing.T) {
	r := rand.New(rand.NewSource(44))
	for range 2000 {
		c := samples.Circuit(r.Intn)
		bare := shape.Copy(c)
		bare.Symbols, bare.Comments = nil, nil
		s := samples.Text(bare, samples.Least)
		if d, f := ascii.Read(samples.Text(c, r.Intn)); f.Code != api.OK {
			t.Fatal(f)
		} else if at, e := shape.Check(d); e != api.OK {
			t.Fatalf("%+v: %d, %v", d, at, e)
		}
		reads(t, s, bare)
		bare.Comments = []string{"more", ""}
		reads(t, s+"c\nmore\n\n", bare)
		if len(bare.Inputs) > 0 {
			bare.Comments, bare.Symbols = nil, one('i', 0, "more")
			reads(t, s+"i0 more\n", bare)
		}
	}
}

// 4.4: a byte put behind a text makes it none, but a byte 10 behind comments' lines, which is a comment of nothing.
func TestByteBehindTexts(t *testing.T) {
	r := rand.New(rand.NewSource(45))
	all := []string{"aag 0 0 0 0 0\n", "aag 0 0 0 0 0\nc\n", "aag 0 0 0 0 0\nc\n\n", "aag 1 1 0 0 0\n2\ni0 x\n", "aag 1 1 0 0 0\n2\n", fullText(fullBody(), fullEnd()), fullText(fullBody(), fullEnd()[:8])}
	for range 40 {
		all = append(all, samples.Text(samples.Circuit(r.Intn), r.Intn))
	}
	for _, s := range all {
		c, f := ascii.Read(s)
		if f != (api.Fault{}) {
			t.Fatalf("%s: %v", samples.Short(s), f)
		}
		for b := range 256 {
			if b == 10 && strings.Contains(s, "\nc\n") {
				more := shape.Copy(c)
				more.Comments = append(more.Comments, "")
				reads(t, s+"\n", more)
				continue
			}
			refuses(t, s+string([]byte{byte(b)}), len(s), api.ErrLine)
		}
	}
}
