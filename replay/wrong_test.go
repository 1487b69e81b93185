package replay_test

import (
	"math"
	"slices"
	"testing"

	"trestle/api"
	"trestle/samples"
)

// wrongAnyway is what is handed in beside a circuit that is wrong: what would go with samples.Right, and what is wrong too.
func wrongAnyway() []given {
	long := api.Trace{Init: make([]bool, api.MaxItems+1), Inputs: make([][]bool, api.MaxItems+1)}
	return []given{
		{i: 1, p: api.Prop{Kind: 'b', At: 1}, tr: samples.Told(-1, "010", "01")}, {i: 0, p: api.Prop{Kind: 'j', At: 2}, tr: samples.Told(0, "111", "00", "11")},
		{i: -1, p: api.Prop{Kind: 'j', At: 3}}, {i: 7, p: api.Prop{Kind: 'x'}, tr: samples.Told(7, "0", "1")}, {i: 0, p: api.Prop{Kind: 'b'}, tr: samples.Told(-2, "0000")},
		{i: math.MaxInt, p: api.Prop{Kind: 'l', At: 1}, tr: samples.Told(-1, "010", "01")}, {i: 2, p: api.Prop{Kind: 'b', At: math.MinInt}, tr: long},
	}
}

// 13.1 to 13.3, R1, R2: what layer 3 refuses is told ahead of all else, and its place is not; of two things that are wrong with a circuit, the one that layer 3's chapter names first.
func TestWrongCircuits(t *testing.T) {
	all := samples.Faults()
	for i, f := range all {
		for _, g := range wrongAnyway() {
			refuse(t, f.Name, calls(), f.Circuit(), g, f.Want)
		}
		for _, also := range all[i+1:] {
			c := f.Circuit()
			also.Do(&c)
			refuse(t, f.Name+", "+also.Name, calls(), c, wrongAnyway()[i%6], f.Want)
		}
	}
	for _, most := range []int{-1, math.MinInt, api.MaxVar + 1, math.MaxInt} {
		for _, g := range wrongAnyway() {
			refuse(t, most, calls(), api.Circuit{Max: most}, g, api.ErrRange)
		}
	}
	// What is wrong with a circuit counts also where the property has nothing to do with it.
	tooMany := turning([]int{2})
	tooMany.Bads, tooMany.Fairness = []int{2}, make([]int, api.MaxItems+1)
	loose := turning([]int{2}, []int{4})
	symbol := turning([]int{2})
	symbol.Symbols = []api.Symbol{{Kind: 'j', At: 1, Name: "j"}}
	for _, p := range []api.Prop{{Kind: 'b'}, {Kind: 'j'}} {
		g := given{p: p, tr: empty("0", 2, 0)}
		refuse(t, "too much fairness", calls(), tooMany, g, api.ErrLong)
		refuse(t, "a literal of another property", calls(), loose, g, api.ErrLit)
		refuse(t, "a symbol", calls(), symbol, g, api.ErrSymbol)
	}
}

// 13.1 to 13.3: a property that is none, or not there, ahead of a trace that does not fit, or is no run.
func TestNoProperty(t *testing.T) {
	c := samples.Right()
	for _, g := range wrongAnyway() {
		for _, i := range []int{-1, 3, 4, math.MinInt, math.MaxInt} {
			g.i = i
			refuse(t, i, some("Bad", "Justice"), c, g, api.ErrNone)
			for _, kind := range []byte("bj") {
				g.p = api.Prop{Kind: kind, At: i}
				refuse(t, g.p, some("Prop"), c, g, api.ErrNone)
			}
			for _, kind := range []byte("ilocfBJ\x00 ") {
				g.p = api.Prop{Kind: kind}
				refuse(t, g.p, some("Prop"), c, g, api.ErrNone)
			}
		}
		g.i, g.p = 2, api.Prop{Kind: 'b', At: 2}
		refuse(t, "two bads", some("Bad", "Prop"), c, g, api.ErrNone)
	}
}

// doesNotFit holds all calls against ErrShape, of a trace that does not fit a circuit with a bad and a justice property.
func doesNotFit(t *testing.T, c api.Circuit, tr api.Trace) {
	t.Helper()
	for _, p := range []api.Prop{{Kind: 'b'}, {Kind: 'j'}} {
		refuse(t, "does not fit", calls(), c, given{p: p, tr: tr}, api.ErrShape)
	}
}

// wide is a circuit of two inputs and three latches, which begin with 0, 1 and either, with a step that never holds, so that a trace that does not fit could be refused for other things too.
func wide() api.Circuit {
	c := following(3)
	c.Inputs = c.Inputs[:2]
	c.Latches[0].Reset, c.Latches[1].Reset, c.Latches[2].Next = 0, 1, 9
	c.Bads, c.Constraints, c.Justice = []int{0}, []int{0}, [][]int{{0}}
	return c
}

// 13.1 to 13.3: first states that are no truth for each latch, alone and beside other wrong things.
func TestFirstStatesThatDoNotFit(t *testing.T) {
	for _, n := range []int{0, 1, 2, 4, 5, 6, 64, api.MaxItems, api.MaxItems + 1} {
		for _, rows := range [][]string{{"01"}, {"01", "10"}, nil, {"0"}, {"11", "000"}} {
			for _, loop := range []int{-1, 0, 7} {
				tr := samples.Told(loop, "", rows...)
				tr.Init = make([]bool, n)
				doesNotFit(t, wide(), tr)
			}
		}
	}
	none := api.Circuit{Bads: []int{1}, Justice: [][]int{nil}}
	doesNotFit(t, none, samples.Told(0, "0", ""))
	doesNotFit(t, turning(nil), samples.Told(0, "", ""))
	doesNotFit(t, turning(nil), samples.Told(0, "00", ""))
}

// 13.1 to 13.3: no rows, too many, and rows that are no truth for each input, any one of them.
func TestRowsThatDoNotFit(t *testing.T) {
	for _, n := range []int{0, api.MaxFrames + 1, api.MaxFrames + 2, 2 * api.MaxFrames, api.MaxItems, api.MaxItems + 1} {
		for _, loop := range []int{-1, 0, n - 1} {
			for _, first := range []string{"010", "100", "0"} {
				tr := samples.Told(loop, first)
				tr.Inputs = slices.Repeat([][]bool{samples.Bits("01")}, n)
				doesNotFit(t, wide(), tr)
			}
			doesNotFit(t, api.Circuit{Bads: []int{1}, Justice: [][]int{nil}}, empty("", n, loop))
		}
	}
	for _, width := range []int{0, 1, 3, 4, 64, api.MaxItems, api.MaxItems + 1} {
		for _, n := range []int{1, 2, 3, api.MaxFrames} {
			for _, at := range []int{0, n / 2, n - 1} {
				tr := samples.Told(-1, "010")
				tr.Inputs = slices.Repeat([][]bool{samples.Bits("01")}, n)
				tr.Inputs[at] = make([]bool, width)
				doesNotFit(t, wide(), tr)
			}
		}
	}
	doesNotFit(t, wide(), samples.Told(-1, "010", "0", "101"))
	doesNotFit(t, turning(nil), samples.Told(0, "0", "", "0"))
}

// 13.2, 13.3: loops that are no step, nor -1: they do not fit a justice property, nor Reached; for a bad they are not looked at.
func TestLoopsThatDoNotFit(t *testing.T) {
	c := turning(nil)
	c.Bads = []int{1}
	for _, n := range []int{1, 2, 7, api.MaxFrames} {
		for _, loop := range []int{math.MinInt, -n - 1, -2, n, n + 1, api.MaxItems, math.MaxInt} {
			for _, first := range []string{"0", "1"} {
				tr := empty(first, n, loop)
				refuse(t, loop, some("Justice", "Prop", "Reached"), c, given{p: api.Prop{Kind: 'j'}, tr: tr}, api.ErrShape)
			}
			bad(t, c, 0, empty("0", n, loop), n-1, api.OK)
			bad(t, c, 0, empty("1", n, loop), 0, api.ErrInit)
		}
	}
}
