package stim_test

import (
	"fmt"
	"math/rand"
	"slices"
	"strings"
	"testing"

	"trestle/api"
	"trestle/samples"
	"trestle/stim"
)

// 12.2: the chapter's examples, and the document's.
func TestReadByExample(t *testing.T) {
	one := size{1, 0}
	reads(t, "1\nb0\n0\n\n\n.\n", one, shown(samples.Told(-1, "0", "", ""), bad(0)))
	reads(t, "1\nb0\n0\n\n\nc loop 1\n.\n", one, shown(samples.Told(1, "0", "", ""), bad(0)))
	reads(t, "0\nb0 j1\n.\n", one, said(0, bad(0), justice(1)))
	unreadBoth(t, "3\nb0\n.\n", one, 0, api.ErrStatus)
	unreadBoth(t, "0\nb0 b0\n.\n", one, 2, api.ErrProp)
}

// 12.2, R1: a text that is too long goes ahead of numbers that may not be, and these go ahead of its lines.
func TestReadInOrder(t *testing.T) {
	for _, s := range []string{"", "0\nb0\n.\n", "3\n", "1\nb0\n0\n\n.\n", "x"} {
		long := s + strings.Repeat("0", api.MaxText+1-len(s))
		for _, n := range outside() {
			for _, other := range []int{0, 1, api.MaxItems, -1, api.MaxItems + 1} {
				for _, z := range []size{{n, other}, {other, n}} {
					unreadBoth(t, s, z, 0, api.ErrRange)
					unreadBoth(t, long[:api.MaxText], z, 0, api.ErrRange)
					unreadBoth(t, long, z, 0, api.ErrLong)
				}
			}
		}
		unreadBoth(t, long, size{}, 0, api.ErrLong)
		unreadBoth(t, long+long, size{1, 1}, 0, api.ErrLong)
		readAsWords(t, long[:api.MaxText], size{1, 0})
	}
	for _, z := range []size{{0, 0}, {api.MaxItems, 0}, {0, api.MaxItems}, {api.MaxItems, api.MaxItems}} {
		reads(t, "0\nb0\n.\n", z, said(0, bad(0)))
	}
}

// wrongNumbers is what may not stand in place of a number.
func wrongNumbers() []string {
	return []string{
		"", " ", "00", "01", "007", "+0", "+5", "-0", "-1", "16384", "16385", "99999", "100000", "163830", "2147483648", "4294967296", "18446744073709551616", strings.Repeat("9", 500), "0" + strings.Repeat("0", 500), "1" + strings.Repeat("0", 100000),
		"x", "0x", "x0", "0x1", "1_0", "1e1", "1.0", "1,", "１", "٣", "0\x00", "0\r", "\r0", "0\t", "\t0", "0 ", " 0", "/", ":",
	}
}

// 12.2: first lines that are none.
func TestReadOfFirstLines(t *testing.T) {
	for _, wrong := range append(wrongNumbers(), "3", "4", "9", "10", "12", "16383", "b0", ".", "c", "i0 x", "0b", "1 b0", "2.", "s 1", "sat") {
		for _, rest := range []string{"", "\n", "\nb0\n.\n", "\nb0\n0\n\n.\n", "\nb0 b0\n.\n", "\n\n"} {
			unread(t, wrong+rest, size{1, 0}, 0, api.ErrStatus)
			if wrong+rest != "" {
				unreadAll(t, wrong+rest, size{1, 0}, 0, api.ErrStatus)
			}
		}
	}
	for b := range 256 {
		s := string([]byte{byte(b)}) + "\nb0\n.\n"
		if b != '0' && b != '2' && b != '1' {
			unreadBoth(t, s, size{}, 0, api.ErrStatus)
		} else if b != '1' {
			reads(t, s, size{}, said(b-'0', bad(0)))
		}
	}
	unread(t, "", size{}, 0, api.ErrStatus)
	unreadBoth(t, "\n0\nb0\n.\n", size{}, 0, api.ErrStatus)
}

// 12.2, R6: second lines that are none: numbers, letters, blanks, one property twice; the status and what stands behind do not matter.
func TestReadOfSecondLines(t *testing.T) {
	all := []string{
		"", " ", "b", "j", "0", "b 0", "b0 ", " b0", "b0  j0", "b0\tj0", "b0,j0", "b0j0", "bb0", "bj0", "b0b", "b0 j", "b0 0", "b0 1", "j b0", "B0", "J0", ".", "c", "c loop 0", "b0\x00", "\x00b0", "b0 .", "b0\r",
		"b0 b0", "j3 j3", "b0 j0 b0", "b1 j1 b2 j1", "b7 b7 b7", "b0 b00", "é0", "b0 é",
	}
	for _, n := range wrongNumbers() {
		all = append(all, "b"+n, "j"+n, "b0 j"+n, "b"+n+" j0", "j1 b"+n+" j2")
	}
	for b := range 256 {
		if b != 'b' && b != 'j' {
			all = append(all, string([]byte{byte(b)})+"0", "b0 "+string([]byte{byte(b), '1'}))
		}
	}
	for _, line := range all {
		for _, status := range []string{"0", "1", "2"} {
			for _, rest := range []string{"", "\n", "\n.\n", "\n0\n\n.\n", "\nx"} {
				unreadBoth(t, status+"\n"+line+rest, size{1, 0}, 2, api.ErrProp)
			}
		}
	}
}

// propsText is the words of properties.
func propsText(props []api.Prop) string {
	words := make([]string, len(props))
	for i, p := range props {
		words[i] = fmt.Sprintf("%c%d", p.Kind, p.At)
	}
	return strings.Join(words, " ")
}

// 12.2: as many properties as may be, and one more, of which none stands twice.
func TestReadOfManyProps(t *testing.T) {
	most := bads(0, api.MaxItems)
	for _, i := range []int{0, 1, 7, 5000, api.MaxItems - 1} {
		most[i].Kind = 'j'
	}
	text := propsText(most)
	reads(t, "2\n"+text+"\n.\n", size{}, said(2, most...))
	for _, more := range []string{" j9", " b0", " j0", " b1 j9", " b1", " ", " b16384", " x"} {
		unreadBoth(t, "2\n"+text+more+"\n.\n", size{}, 2, api.ErrProp)
		unreadBoth(t, "2\n"+strings.TrimSpace(more)+" "+text+"\n.\n", size{}, 2, api.ErrProp)
	}
	reads(t, "0\nb0 j0 b16383 j16383 b10 b1 b100\n.\n", size{}, said(0, bad(0), justice(0), bad(16383), justice(16383), bad(10), bad(1), bad(100)))
	for _, s := range []string{strings.Repeat("b0 ", 80000), strings.Repeat(" ", 200000), strings.Repeat("b", 200000)} {
		unreadBoth(t, "2\n"+s+"\n.\n", size{}, 2, api.ErrProp)
	}
}

// full is a text of a witness with something of all, its lines and its size.
func full() ([]string, size) {
	return []string{"1", "b3 j0", "01", "110", "001", "000", "c loop 1", "."}, size{2, 3}
}

// placeOf is where a line of some begins.
func placeOf(lines []string, i int) int { return len(samples.Lines(lines[:i]...)) }

// codeOf is the error of a line of a witness.
func codeOf(i int) api.Errno {
	switch i {
	case 0:
		return api.ErrStatus
	case 1:
		return api.ErrProp
	}
	return api.ErrForm
}

// 12.2: rows with another number of digits, in place of the first state and of each row.
func TestReadOfOtherWidths(t *testing.T) {
	for i := 2; i < 6; i++ {
		for _, n := range []int{0, 1, 2, 3, 4, 5, 6, api.MaxItems, api.MaxItems + 1} {
			lines, z := full()
			if n == len(lines[i]) {
				continue
			}
			for _, digit := range []string{"0", "1", "x"} {
				lines[i] = strings.Repeat(digit, n)
				unreadBoth(t, samples.Lines(lines...), z, placeOf(lines, i), api.ErrForm)
			}
		}
	}
	// A character of several bytes is not one digit, nor as many as it has bytes.
	for _, row := range []string{"é", "０", "éé", "0é", "é1", "００", "€", "€0", "\u0660\u0661", "\xff\xfe\xfd"} {
		for z := range 5 {
			unreadBoth(t, "1\nb0\n"+row+"\n\n.\n", size{z, 0}, 5, api.ErrForm)
			unreadBoth(t, "1\nb0\n\n"+row+"\n.\n", size{0, z}, 6, api.ErrForm)
		}
	}
}

// 12.2: each byte at each place of each row: 0, 1 and x alone may stand there, and x counts as 0.
func TestReadOfDigits(t *testing.T) {
	for i := 2; i < 6; i++ {
		right, z := full()
		for at := range right[i] {
			for b := range 256 {
				lines := slices.Clone(right)
				lines[i] = lines[i][:at] + string([]byte{byte(b)}) + lines[i][at+1:]
				if !slices.Contains([]byte("01x"), byte(b)) {
					unreadBoth(t, samples.Lines(lines...), z, placeOf(lines, i), api.ErrForm)
					continue
				}
				tr := samples.Told(1, lines[2], lines[3], lines[4], lines[5])
				reads(t, samples.Lines(lines...), z, shown(tr, bad(3), justice(0)))
			}
		}
	}
	reads(t, "1\nj3\nx1\n1x\n.\n", size{2, 2}, shown(samples.Told(-1, "01", "10"), justice(3)))
	reads(t, "1\nj3\nxx\nxx\nxx\n.\n", size{2, 2}, shown(samples.Told(-1, "00", "00", "00"), justice(3)))
}

// 12.2: more than MaxFrames rows: the place of the first one too many, whatever stands behind it; at its place a loop or a point may stand.
func TestReadOfManyRows(t *testing.T) {
	for _, z := range []size{{0, 0}, {2, 1}, {1, 3}} {
		row := strings.Repeat("1", z.inputs)
		head := "1\nb0\n" + strings.Repeat("x", z.latches) + "\n"
		text := head + strings.Repeat(row+"\n", api.MaxFrames)
		tr := api.Trace{Init: make([]bool, z.latches), Inputs: slices.Repeat([][]bool{samples.Bits(row)}, api.MaxFrames), Loop: -1}
		reads(t, text+".\n", z, shown(tr, bad(0)))
		tr.Loop = api.MaxFrames - 1
		reads(t, text+"c loop 511\n.\n", z, shown(tr, bad(0)))
		for _, rest := range []string{row + "\n.\n", row + "\n", row, row + "\n" + row + "\n.\n", row + "\nc loop 0\n.\n", row + "\n?\n.\n", "0000\n.\n", "c loop 512\n.\n", "c loop 511", "", "."} {
			unreadBoth(t, text+rest, z, len(text), api.ErrForm)
		}
		unreadBoth(t, text+"c loop 0\n"+row+"\n.\n", z, len(text)+len("c loop 0\n"), api.ErrForm)
		unreadBoth(t, text+strings.Repeat(row+"\n", api.MaxFrames)+".\n", z, len(text), api.ErrForm)
	}
}

// 12.2: loops that go to a row, and to none; the line of a loop in other forms.
func TestReadOfLoops(t *testing.T) {
	for n := 1; n < 13; n++ {
		text := "1\nb0\n\n" + strings.Repeat("\n", n)
		for to := range n {
			tr := api.Trace{Inputs: make([][]bool, n), Loop: to}
			reads(t, fmt.Sprintf("%sc loop %d\n.\n", text, to), size{}, shown(tr, bad(0)))
		}
		for _, to := range []int{n, n + 1, 10 * n, 511, 512, 16383, 16384} {
			unreadBoth(t, fmt.Sprintf("%sc loop %d\n.\n", text, to), size{}, len(text), api.ErrForm)
		}
		for _, digits := range wrongNumbers() {
			unreadBoth(t, text+"c loop "+digits+"\n.\n", size{}, len(text), api.ErrForm)
		}
		for _, line := range []string{
			"c loop", "c loop0", "cloop 0", "c  loop 0", "c loop  0", " c loop 0", "c loop 0 ", "c\tloop 0", "C loop 0", "c Loop 0", "c LOOP 0", "loop 0", "c 0", "c", "c loops 0", "cc loop 0", "c loop 0 0", "c loop 0.", "c loop 0\r", "c loop x", "b loop 0", "c loop -1", "c comment", "x",
		} {
			unreadBoth(t, text+line+"\n.\n", size{}, len(text), api.ErrForm)
		}
	}
}

// 12.2: a loop's line ahead of the first row, twice, and with other things than the point's line behind it.
func TestReadOfLinesBehindLoops(t *testing.T) {
	const text = "1\nb0\n1\n0\n1\n"
	z := size{1, 1}
	for _, rest := range []string{"c loop 0\n.\n", "c loop 0\n0\n.\n", "c loop 1\n.\n", "c loop 0", "c loop 0\n"} {
		unreadBoth(t, text[:7]+rest, z, 7, api.ErrForm)
		unreadBoth(t, text[:5]+rest, z, 5, api.ErrForm)
	}
	at := len(text + "c loop 1\n")
	for _, rest := range []string{"c loop 1\n.\n", "c loop 0\n.\n", "0\n.\n", "1\n", "", "x", "\n.\n", ". \n", " .\n", "..\n", ".", "c\n.\n", "c loop 7\n", "1\nb0\n1\n0\n.\n"} {
		unreadBoth(t, text+"c loop 1\n"+rest, z, at, api.ErrForm)
	}
	reads(t, text+"c loop 1\n.\n", z, shown(samples.Told(1, "1", "0", "1"), bad(0)))
}

// 12.2: a point ahead of the first row of Status 1, of all sizes; other lines in the place of the point.
func TestReadOfPoints(t *testing.T) {
	for _, z := range sizes() {
		first, row := strings.Repeat("0", z.latches), strings.Repeat("1", z.inputs)
		unreadBoth(t, "1\nb0\n.\n", z, 5, api.ErrForm)
		unreadBoth(t, "1\nb0\n"+first+"\n.\n", z, 6+z.latches, api.ErrForm)
		unreadBoth(t, "1\nb0\n"+first+"\n.\n"+row+"\n.\n", z, 6+z.latches, api.ErrForm)
		reads(t, "1\nb0\n"+first+"\n"+row+"\n.\n", z, shown(samples.Told(-1, first, row), bad(0)))
		for _, line := range []string{"", " ", " .", ". ", "..", ".\r", "\x00", ",", "x", "0", "1", "b0", "c", "c loop 0", first, row, first + "\n" + row + "\n."} {
			for _, status := range []string{"0", "2"} {
				unreadBoth(t, status+"\nb0\n"+line+"\n.\n", z, 5, api.ErrForm)
				unreadBoth(t, status+"\nb0\n"+line+"\n", z, 5, api.ErrForm)
				unreadBoth(t, status+"\nb0\n"+line, z, 5, api.ErrForm)
			}
		}
	}
	for b := range 256 {
		if b != '.' {
			unreadBoth(t, "0\nb0\n"+string([]byte{byte(b)})+"\n", size{}, 5, api.ErrForm)
		}
	}
}

// 12.2: a text that ends ahead of its time: behind a line its length is told, within a line that line's place.
func TestReadOfCutTexts(t *testing.T) {
	lines, z := full()
	for _, lines := range [][]string{lines, append(slices.Clone(lines[:6]), "."), {"0", "b0 j16383", "."}, {"2", "j1", "."}} {
		s := samples.Lines(lines...)
		for n := range len(s) {
			i := strings.Count(s[:n], "\n")
			unread(t, s[:n], z, placeOf(lines, i), codeOf(i))
			if n > 0 {
				unreadAll(t, s[:n], z, placeOf(lines, i), codeOf(i))
			}
		}
	}
}

// 12.2: something behind the point's line: its place; All takes what stands there as the next witness.
func TestReadOfMoreBehind(t *testing.T) {
	lines, z := full()
	for _, s := range []string{samples.Lines(lines...), "0\nb0\n.\n"} {
		for b := range 256 {
			unread(t, s+string([]byte{byte(b)}), z, len(s), api.ErrForm)
			unreadAll(t, s+string([]byte{byte(b)}), z, len(s), api.ErrStatus)
		}
		for _, rest := range []string{"\n", ".\n", "x\n", "0\n", "0\nb0\n.\n", s, s + s, "3\nb0\n.\n", "c\ncomment\n"} {
			unread(t, s+rest, z, len(s), api.ErrForm)
			readAsWords(t, s+rest, z)
		}
	}
}

// R1: of two wrong lines the first one is told, with its place, and ahead of something behind the point's line.
func TestReadOfTwoWrongLines(t *testing.T) {
	right, z := full()
	for i := range right {
		for k := i; k <= len(right); k++ {
			lines := append(slices.Clone(right), "")
			lines[k], lines[i] = "?", "?"
			s := samples.Lines(lines...)
			unreadBoth(t, s, z, placeOf(lines, i), codeOf(i))
			unreadBoth(t, s[:len(s)-1], z, placeOf(lines, i), codeOf(i))
		}
		// A line that lacks: the next one stands in its place.
		lines := append(slices.Clone(right[:i]), right[i+1:]...)
		readAsWords(t, samples.Lines(lines...), z)
		// A line twice.
		lines = append(slices.Clone(right[:i+1]), right[i:]...)
		readAsWords(t, samples.Lines(lines...), z)
	}
}

// 12.2, 12.3: all texts of a few lines: Read and All say what the chapter's words say.
func TestReadOfAllLines(t *testing.T) {
	tokens := []string{"0", "1", "b0", "b0 j0", "", "x", ".", "c loop 0", "c loop 1"}
	for n := range 6 {
		for _, lines := range samples.AllLists(n, tokens...) {
			s := samples.Lines(lines...)
			readAsWords(t, s, size{0, 0})
			readAsWords(t, s, size{1, 1})
			readAsWords(t, s, size{1, 0})
		}
	}
	for _, head := range []string{"1\nb0\n1\n", "1\nb0\n\n", "0\nj0\n.\n"} {
		for _, lines := range samples.AllLists(4, "0", "x", "", ".", "c loop 0", "c loop 2", "1", "b0") {
			for _, z := range []size{{0, 0}, {1, 1}, {1, 0}, {0, 1}} {
				readAsWords(t, head+samples.Lines(lines...), z)
			}
		}
	}
}

// 12.2, 12.3: all short texts of bytes that matter, behind the beginnings of witnesses.
func TestReadOfAllShortTexts(t *testing.T) {
	for _, x := range []struct{ head, bytes string }{{"", "01b.\n"}, {"0\n", "b01j \n"}, {"1\nb0\n", "01x.\n"}, {"1\nb0\n0\n", "0x.c\n"}, {"1\nb0\n0\n1\nc loop ", "01 .\n"}, {"0\nb0\n.\n", "0b.\n"}} {
		for n := range 7 {
			for _, part := range samples.AllLists(n, []byte(x.bytes)...) {
				readAsWords(t, x.head+string(part), size{1, 1})
			}
		}
	}
}

// 12.2: each byte put in, put over another one, and taken out, at each place of a text.
func TestReadOfChangedBytes(t *testing.T) {
	lines, z := full()
	s := samples.Lines(lines...)
	for at := range len(s) {
		readAsWords(t, s[:at]+s[at+1:], z)
		for b := range 256 {
			readAsWords(t, s[:at]+string([]byte{byte(b)})+s[at:], z)
			readAsWords(t, s[:at]+string([]byte{byte(b)})+s[at+1:], z)
		}
	}
}

// withX is a text in which some of the digits 0 of a trace's rows are x.
func withX(s string, pick func(n int) int) string {
	lines := strings.SplitAfter(s, "\n")
	for i := 2; i < len(lines); i++ {
		if strings.HasPrefix(lines[i], "c") {
			continue
		}
		row := []byte(lines[i])
		for k := range row {
			if row[k] == '0' && pick(2) == 0 {
				row[k] = 'x'
			}
		}
		lines[i] = string(row)
	}
	return strings.Join(lines, "")
}

// 12.2, 12.3: texts by chance, with x in their rows, most of them changed: each error comes.
func TestReadByChance(t *testing.T) {
	r := rand.New(rand.NewSource(125))
	seen := map[api.Errno]int{}
	for range 60000 {
		z := sizes()[r.Intn(len(sizes()))]
		s := withX(textBy(t, witnessBy(z, r.Intn), z), r.Intn)
		for range r.Intn(3) {
			s = samples.Changed(s, "012bjx. \nc9", r.Intn)
		}
		seen[readAsWords(t, s, z).Code]++
	}
	for _, e := range []api.Errno{api.OK, api.ErrStatus, api.ErrProp, api.ErrForm} {
		if seen[e] < 2000 {
			t.Errorf("%v came but %d times", e, seen[e])
		}
	}
}

// P1: texts of any bytes: both calls end, and tell what the chapter's words say.
func TestReadOfAnyBytes(t *testing.T) {
	r := rand.New(rand.NewSource(126))
	for range 20000 {
		b := make([]byte, r.Intn(40))
		for i := range b {
			b[i] = byte(r.Intn(256))
			if r.Intn(2) == 0 {
				b[i] = "01b.\n"[r.Intn(5)]
			}
		}
		readAsWords(t, string(b), size{r.Intn(3), r.Intn(3)})
	}
	for _, part := range []string{"\n", "0\n", "1\nb0\n", ".\n", "0", "\x00", "1\nb0\n\n\n"} {
		s := strings.Repeat(part, api.MaxText/len(part))
		if _, f := stim.Read(s, 0, 0); f.Code == api.OK {
			t.Errorf("%s is read", samples.Short(s))
		}
		readAsWords(t, s, size{})
	}
}
