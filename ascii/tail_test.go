package ascii_test

import (
	"math"
	"math/rand"
	"strings"
	"testing"

	"trestle/api"
	"trestle/samples"
)

// wrongLine is the fault of a line at a place.
func wrongLine(at int) api.Fault { return api.Fault{At: at, Code: api.ErrLine} }

// one is the list of one symbol.
func one(kind byte, at int, name string) []api.Symbol {
	return []api.Symbol{{Kind: kind, At: at, Name: name}}
}

// 4.2: nothing, symbols, comments, both.
func TestTailByExample(t *testing.T) {
	two := []api.Symbol{{Kind: 'i', At: 0, Name: "x"}, {Kind: 'o', At: 0, Name: "and"}}
	none := api.Fault{}
	tails(t, "", 0, nil, nil, none)
	tails(t, "c\n", 0, nil, nil, none)
	tails(t, "i0 x\no0 and\nc\na comment\n", 0, two, []string{"a comment"}, none)
	tails(t, "i0 x\no0 and\n", 0, two, nil, none)
	tails(t, "i0 x\no0 and\nc\n", 0, two, nil, none)
	tails(t, "c\n\n", 0, nil, []string{""}, none)
	tails(t, "c\n\n\n", 0, nil, []string{"", ""}, none)
	tails(t, "c\nc\nc0 x\ni0\n x \n", 0, nil, []string{"c", "c0 x", "i0", " x "}, none)
	tails(t, "c0 x\nc\nc\n", 0, one('c', 0, "x"), []string{"c"}, none)
	tails(t, "i0\n", 0, nil, nil, wrongLine(0))
	tails(t, "x", 0, nil, nil, wrongLine(0))
}

// 4.2: each letter ahead of a number: the seven of kinds alone are right.
func TestTailOfKinds(t *testing.T) {
	for b := range 256 {
		s := string([]byte{byte(b)}) + "3 x\n"
		switch {
		case strings.IndexByte("ilobcjf", byte(b)) >= 0:
			tails(t, s, 0, one(byte(b), 3, "x"), nil, api.Fault{})
		default:
			tails(t, s, 0, nil, nil, wrongLine(0))
		}
	}
	for _, s := range []string{"ii0 x\n", "il0 x\n", " i0 x\n", "I0 x\n", "0 x\n", "i0x\n", "é0 x\n", "\n", " \n", "  \n", " x\n", "x\n"} {
		tails(t, s, 0, nil, nil, wrongLine(0))
	}
}

// 4.2, R6: numbers of symbols, as they may stand and as they may not.
func TestTailOfNumbers(t *testing.T) {
	for digits, n := range map[string]int{"0": 0, "1": 1, "9": 9, "10": 10, "16384": 16384, "16385": 16385, "2147483647": 1<<31 - 1} {
		tails(t, "zj"+digits+" x\n", 1, one('j', n, "x"), nil, api.Fault{})
	}
	for _, digits := range []string{
		"", "00", "01", "0000001", "+0", "+1", "-0", "-1", "x", "0x", "x0", "0x1", "1_0", "1.", "1e1", "2147483648", "4294967296", "18446744073709551616", "18446744073709551617", "１", "\x00", "1\t", "1\r", "/", ":",
		strings.Repeat("9", 1000), "1" + strings.Repeat("0", 200000),
	} {
		tails(t, "zj"+digits+" x\n", 1, nil, nil, wrongLine(1))
		tails(t, "i0 x\nc"+digits+" x\nc\n", 0, nil, nil, wrongLine(5))
	}
	// A blank ahead of the number makes it none.
	tails(t, "i 0 x\n", 0, nil, nil, wrongLine(0))
	tails(t, "i  0\n", 0, nil, nil, wrongLine(0))
}

// 4.2: names: none, with blanks ahead, within and behind, of any bytes but 10, long ones.
func TestTailOfNames(t *testing.T) {
	for _, s := range []string{"i0\n", "i0 \n", "i0", "i0 ", "i0 x", "c0\n", "c0 \n", "i0\tx\n", "i0\rx\n", "i0\x00x\n"} {
		tails(t, s, 0, nil, nil, wrongLine(0))
	}
	all := strings.ReplaceAll(allBytes(), "\n", "")
	for _, name := range []string{" ", "  ", " x", "x ", "a b", "a  b ", "0", "c", "é", all, strings.Repeat("n", 64), strings.Repeat("n", 65), strings.Repeat("n", api.MaxText-6)} {
		tails(t, "i0 "+name+"\nc\n", 0, one('i', 0, name), nil, api.Fault{})
	}
	for b := range 256 {
		name := string([]byte{byte(b)})
		if b == 10 {
			tails(t, "i0 x\ni0 "+name+"\n", 0, nil, nil, wrongLine(5))
			continue
		}
		tails(t, "i0 x\ni0 "+name+"\n", 5, one('i', 0, name), nil, api.Fault{})
		tails(t, "f7 x"+name+"y\n", 0, one('f', 7, "x"+name+"y"), nil, api.Fault{})
	}
}

// 4.2: the line c has nothing else in it; the comments behind it have any bytes but 10, the last one its end too.
func TestTailOfComments(t *testing.T) {
	for _, s := range []string{"c \nx\n", "cx\nx\n", " c\nx\n", "c\r\nx\n", "cc\nx\n", "C\nx\n", "c\x00\nx\n", "comment\nx\n", "c x\n", "c"} {
		tails(t, s, 0, nil, nil, wrongLine(0))
	}
	all := strings.ReplaceAll(allBytes(), "\n", "")
	tails(t, "c\n"+all+"\n"+allBytes()+"\n", 0, nil, []string{all, allBytes()[:10], allBytes()[11:]}, api.Fault{})
	tails(t, "c\n"+all, 0, nil, nil, wrongLine(2))
	tails(t, "c\nx\ny", 0, nil, nil, wrongLine(4))
	tails(t, "c\n\n\n ", 0, nil, nil, wrongLine(4))
	tails(t, "i0 x\nc\nc", 0, nil, nil, wrongLine(7))
	// What would be a wrong line ahead of c is a comment behind it.
	tails(t, "c\nx\ni0\ni00 x\n", 0, nil, []string{"x", "i0", "i00 x"}, api.Fault{})
	tails(t, "x\nc\nx\n", 0, nil, nil, wrongLine(0))
}

// 4.2: layer 3's matter is not looked at here: symbols of no place, twice, with long names; more of either than a circuit may have.
func TestTailOfMore(t *testing.T) {
	const most = api.MaxText / 6
	symbols := make([]api.Symbol, most)
	for i := range symbols {
		symbols[i] = api.Symbol{Kind: 'b', At: 99, Name: "\x01"}
	}
	tails(t, strings.Repeat("b99 \x01\n", most), 0, symbols, nil, api.Fault{})
	tails(t, "c\n"+strings.Repeat("\n", api.MaxText-2), 0, nil, make([]string, api.MaxText-2), api.Fault{})
}

// 4.2: the first wrong line is told, wherever it stands, with its place in the text.
func TestTailOfFirstWrongLine(t *testing.T) {
	right := []string{"i0 x", "l12 a b", "f1 \x00", "c3 c"}
	for _, wrong := range []string{"", "x", "i0", "i0 ", "i00 x", "k0 x", "c ", "c x", " i0 x", "i2147483648 x", "-", "7"} {
		for at := range len(right) + 1 {
			all := append(append(append([]string{}, right[:at]...), wrong), right[at:]...)
			place := len(samples.Lines(all[:at]...))
			for _, behind := range []string{"", "x\n", "x", "c\n", "c\nx", "i0\n", "\n"} {
				tails(t, samples.Lines(all...)+behind, 0, nil, nil, wrongLine(place))
				tails(t, "\nzz"+samples.Lines(all...)+behind, 3, nil, nil, wrongLine(place+3))
			}
		}
	}
}

// 4.2, R1: the text's length first, then the place, at its ends and outside, then the lines.
func TestTailOfPlaces(t *testing.T) {
	outside := api.Fault{Code: api.ErrRange}
	for _, s := range []string{"", "x", "i0 x\n", "c\n", "i0 x\nc\n\n", allBytes()} {
		for _, at := range []int{-1, -2, math.MinInt, len(s) + 1, len(s) + 2, api.MaxText, math.MaxInt} {
			tails(t, s, at, nil, nil, outside)
		}
		tails(t, s, len(s), nil, nil, api.Fault{})
	}
	s := "i0 x\nc\n\n"
	tails(t, s, 0, one('i', 0, "x"), []string{""}, api.Fault{})
	tails(t, s, 5, nil, []string{""}, api.Fault{})
	tails(t, s, 1, nil, nil, wrongLine(1))
	tails(t, s, 4, nil, nil, wrongLine(4))
	tails(t, s, 6, nil, nil, wrongLine(6))
	tails(t, s, 7, nil, nil, wrongLine(7))
	long := strings.Repeat("c", api.MaxText-2) + "\n"
	tails(t, long+"\n", api.MaxText-3, nil, []string{""}, api.Fault{})
	tails(t, long+"\n", api.MaxText, nil, nil, api.Fault{})
	tails(t, long+"\n", api.MaxText+1, nil, nil, outside)
	for _, at := range []int{0, -1, api.MaxText - 3, api.MaxText + 1, api.MaxText + 2, math.MaxInt} {
		tails(t, long+"\nx", at, nil, nil, tooLong)
	}
}

// 4.2: all short texts of bytes that matter, from each place on: Tail says what the chapter's words say.
func TestTailOfAllShortTexts(t *testing.T) {
	const alphabet = "ci0 \n"
	for n := range 8 {
		text := make([]byte, n)
		var fill func(i int)
		fill = func(i int) {
			if i == n {
				s := string(text)
				for at := range min(n, 2) + 1 {
					symbols, comments, f := tailOf(s, at)
					tails(t, s, at, symbols, comments, f)
				}
				return
			}
			for _, b := range []byte(alphabet) {
				text[i] = b
				fill(i + 1)
			}
		}
		fill(0)
	}
}

// 4.2: lines by chance, some of them with bytes changed.
func TestTailByChance(t *testing.T) {
	r := rand.New(rand.NewSource(42))
	right := []string{"i0 x\n", "l1 y z\n", "o2 \xff\n", "b0  \n", "c10 c\n", "j3 \r\n", "f0 f\n", "c\n", "i0 x\n", "l0 c\n"}
	seen := map[api.Errno]int{}
	for range 40000 {
		s := ""
		for range r.Intn(6) {
			s += right[r.Intn(len(right))]
		}
		if n := len(s); n > 0 && r.Intn(2) == 0 {
			at := r.Intn(n)
			s = s[:at] + samples.SomeByte("ci01 \n\x00x", r.Intn) + s[min(n, at+r.Intn(2)):]
		}
		at := 0
		if r.Intn(4) == 0 {
			at = r.Intn(len(s)+3) - 1
		}
		symbols, comments, f := tailOf(s, at)
		tails(t, s, at, symbols, comments, f)
		seen[f.Code]++
	}
	for _, e := range []api.Errno{api.OK, api.ErrRange, api.ErrLine} {
		if seen[e] < 500 {
			t.Errorf("%v came but %d times", e, seen[e])
		}
	}
}
