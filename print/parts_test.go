package print_test

import (
	"math"
	"strings"
	"testing"

	"trestle/api"
	"trestle/samples"
)

// 6.3: both words, of circuits of nothing, of something, and of such as have not the binary order.
func TestHeadByExample(t *testing.T) {
	and := api.Circuit{Max: 3, Inputs: []int{2, 4}, Outputs: []int{7}, Ands: []api.And{{Out: 6, Left: 4, Right: 2}}}
	for _, x := range []struct {
		c    api.Circuit
		want string
	}{
		{and, " 3 2 0 1 1\n"},
		{api.Circuit{}, " 0 0 0 0 0\n"},
		{api.Circuit{Max: 7}, " 7 0 0 0 0\n"},
		{api.Circuit{Max: api.MaxVar}, " 16384 0 0 0 0\n"},
		{api.Circuit{Fairness: []int{1}}, " 0 0 0 0 0 0 0 0 1\n"},
		{api.Circuit{Outputs: []int{1}}, " 0 0 0 1 0\n"},
		{api.Circuit{Comments: []string{"aag"}}, " 0 0 0 0 0\n"},
		{api.Circuit{Max: 2, Inputs: []int{4}, Fairness: []int{5, 4}}, " 2 1 0 0 0 0 0 0 2\n"},
		{api.Circuit{Max: 3, Inputs: []int{4, 6}, Ands: []api.And{{Out: 2, Left: 4, Right: 6}}}, " 3 2 0 0 1\n"},
	} {
		heads(t, "aag", x.c, "aag"+x.want, api.OK)
		heads(t, "aig", x.c, "aig"+x.want, api.OK)
	}
	heads(t, "aag", samples.Right(), "aag 12 2 3 3 4 2 2 3 2\n", api.OK)
	heads(t, "aig", samples.Right(), "aig 12 2 3 3 4 2 2 3 2\n", api.OK)
	for _, x := range allCounts() {
		heads(t, "aag", x.c, "aag "+x.numbers+"\n", api.OK)
		heads(t, "aig", x.c, "aig "+x.numbers+"\n", api.OK)
	}
}

// 6.3: a header is told of circuits whose text is too long, too.
func TestHeadOfLongCircuits(t *testing.T) {
	heads(t, "aag", latchesOf(api.MaxItems), "aag 16384 0 16384 0 0\n", api.OK)
	heads(t, "aig", api.Circuit{Comments: []string{x(api.MaxText)}}, "aig 0 0 0 0 0\n", api.OK)
}

// 6.3, R1: words that are neither; they are refused ahead of the circuit.
func TestHeadOfWrongWords(t *testing.T) {
	for _, word := range []string{
		"", "a", "aa", "aia", "agg", "aiag", "aagg", "aigg", "aagaig", "AAG", "AIG", "Aag", "aax", "abg", "aag ", " aag", "aig ", " aig", "aag\n", "aig\n", "aag\x00", "\x00aig", "áag", "aɡg", x(1 << 20),
	} {
		heads(t, word, api.Circuit{}, "", api.ErrForm)
		heads(t, word, samples.Right(), "", api.ErrForm)
		heads(t, word, api.Circuit{Max: -1}, "", api.ErrForm)
	}
	heads(t, "aag", api.Circuit{Max: -1}, "", api.ErrRange)
	heads(t, "aig", api.Circuit{Max: -1}, "", api.ErrRange)
}

// 6.3: symbols and comments of each form.
func TestTailByExample(t *testing.T) {
	for _, x := range endings() {
		tails(t, x.symbols, x.comments, x.want, api.OK)
	}
	tails(t, []api.Symbol{{Kind: 'b', At: 3, Name: "a b"}}, []string{"", "c"}, "b3 a b\nc\n\nc\n", api.OK)
	// What layer 3 would not take: a symbol twice, long names, bytes below 32.
	tails(t, []api.Symbol{{Kind: 'i', Name: "x"}, {Kind: 'i', Name: "x"}}, nil, "i0 x\ni0 x\n", api.OK)
	tails(t, one('o', 7, x(5000)), nil, "o7 "+x(5000)+"\n", api.OK)
	for b := range 256 {
		name := string([]byte{byte(b)})
		if b == '\n' {
			continue
		}
		tails(t, one('l', 0, name), []string{name}, "l0 "+name+"\nc\n"+name+"\n", api.OK)
		tails(t, one('l', 0, "a"+name+"b"), []string{name + name}, "l0 a"+name+"b\nc\n"+name+name+"\n", api.OK)
	}
}

// 6.3: each byte as a Kind, with an At that just may and just may not be.
func TestTailOfKinds(t *testing.T) {
	for kind := range 256 {
		for at, digits := range map[int]string{
			0: "0", 1: "1", 9: "9", 10: "10", api.MaxItems - 1: "16383", -1: "", api.MaxItems: "", api.MaxItems + 1: "", math.MinInt: "", math.MaxInt: "", 1 << 31: "", 1 << 32: "", -api.MaxItems: "",
		} {
			symbols := one(byte(kind), at, "x")
			if digits == "" || !strings.Contains("ilobcjf", string(rune(kind))) {
				tails(t, symbols, nil, "", api.ErrForm)
			} else {
				tails(t, symbols, nil, string(rune(kind))+digits+" x\n", api.OK)
			}
		}
	}
}

// 6.3: names of nothing and with a byte 10, comments with a byte 10, wherever it stands.
func TestTailOfLineEnds(t *testing.T) {
	for _, s := range []string{"\n", "a\n", "\na", "a\nb", "\n\n", "\r\n", x(1000) + "\n", "c\n", "\nc\n", "i0 x\ni1 y"} {
		tails(t, one('i', 0, s), nil, "", api.ErrForm)
		tails(t, nil, []string{s}, "", api.ErrForm)
		tails(t, append(one('i', 0, "x"), one('b', 1, s)...), []string{"x"}, "", api.ErrForm)
		tails(t, one('i', 0, "x"), []string{"", "x", s, ""}, "", api.ErrForm)
	}
	tails(t, one('i', 0, ""), nil, "", api.ErrForm)
	tails(t, append(one('i', 0, "x"), one('b', 1, "")...), nil, "", api.ErrForm)
}

// 6.3: as many symbols and comments as may be, and one more.
func TestTailOfLongLists(t *testing.T) {
	const n = api.MaxItems
	symbols := make([]api.Symbol, n)
	for i := range symbols {
		symbols[i] = api.Symbol{Kind: 'i', Name: "x"}
	}
	comments := make([]string, n)
	tails(t, symbols, comments, strings.Repeat("i0 x\n", n)+"c\n"+strings.Repeat("\n", n), api.OK)
	tails(t, append(symbols, symbols[0]), nil, "", api.ErrLong)
	tails(t, nil, append(comments, ""), "", api.ErrLong)
	tails(t, append(symbols, symbols[0]), append(comments, ""), "", api.ErrLong)
}

// 6.3: texts of as many bytes as may be, and of one more, by comments and by names.
func TestTailOfLongTexts(t *testing.T) {
	const n = api.MaxText
	tails(t, nil, []string{x(n - 3)}, "c\n"+x(n-3)+"\n", api.OK)
	tails(t, nil, []string{x(n - 2)}, "", api.ErrLong)
	tails(t, nil, []string{x(n - 4), ""}, "c\n"+x(n-4)+"\n\n", api.OK)
	tails(t, nil, []string{x(n - 3), ""}, "", api.ErrLong)
	tails(t, one('f', 12, x(n-5)), nil, "f12 "+x(n-5)+"\n", api.OK)
	tails(t, one('f', 12, x(n-4)), nil, "", api.ErrLong)
	tails(t, one('f', 12, x(n-8)), []string{""}, "f12 "+x(n-8)+"\nc\n\n", api.OK)
	tails(t, one('f', 12, x(n-7)), []string{""}, "", api.ErrLong)
	tails(t, one('f', 12, x(n-5)), []string{""}, "", api.ErrLong)
}

// 6.3, R1: too many of one of both are told ahead of wrong ones, and these ahead of the length.
func TestTailInOrder(t *testing.T) {
	wrong := one('x', -1, "")
	many := make([]string, api.MaxItems+1)
	long := x(api.MaxText)
	tails(t, wrong, many, "", api.ErrLong)
	tails(t, make([]api.Symbol, api.MaxItems+1), []string{"\n"}, "", api.ErrLong)
	many[0] = "\n"
	tails(t, nil, many, "", api.ErrLong)
	tails(t, wrong, []string{long}, "", api.ErrForm)
	tails(t, wrong, []string{"\n"}, "", api.ErrForm)
	tails(t, one('i', 0, long), []string{"\n"}, "", api.ErrForm)
	tails(t, append(one('i', 0, long), wrong...), nil, "", api.ErrForm)
	tails(t, nil, []string{long, "\n"}, "", api.ErrForm)
	tails(t, nil, []string{long}, "", api.ErrLong)
}
