package sweep_test

import (
	"math/rand"
	"testing"

	"trestle/api"
	"trestle/hash"
	"trestle/samples"
)

// 11.1: the chapter's examples.
func TestSweepByExample(t *testing.T) {
	sweeps(t, api.Circuit{Max: 1, Latches: latches(2, [2]int{2, 0}), Bads: []int{2}}, api.Circuit{Bads: []int{0}}, 0, 0)
	sweeps(t, api.Circuit{Max: 2, Latches: latches(2, [2]int{3, 0}, [2]int{3, 0}), Bads: []int{4}}, api.Circuit{Max: 1, Latches: latches(2, [2]int{3, 0}), Bads: []int{2}}, 0, 2, 2)
	c := api.Circuit{Max: 2, Latches: latches(2, [2]int{3, own}, [2]int{3, own}), Bads: []int{4}}
	sweeps(t, c, c, 0, 2, 4)
}

// sweepsAsBuilt holds Sweep of a circuit of which no latch is left away against layer 9's Build.
func sweepsAsBuilt(t *testing.T, c api.Circuit) {
	t.Helper()
	want, m, e := hash.Build(c)
	if e != api.OK {
		t.Fatalf("%s: %v", brief(c), e)
	}
	sweeps(t, c, want, m...)
}

// 11.1: without latches a circuit is built anew: its gates are put together, trivial ones are none.
func TestWithoutLatches(t *testing.T) {
	for _, c := range []api.Circuit{{}, {Max: 1}, {Max: api.MaxVar}, {Max: 3, Inputs: []int{6, 2}}, {Comments: []string{"", "c"}}, {Outputs: []int{1, 0}, Justice: [][]int{{}, {1}}}} {
		sweepsAsBuilt(t, c)
	}
	sweeps(t, api.Circuit{
		Max: 6, Inputs: []int{2, 4}, Bads: []int{9, 10, 13}, Ands: []api.And{{Out: 12, Left: 10, Right: 9}, {Out: 6, Left: 2, Right: 4}, {Out: 8, Left: 4, Right: 2}, {Out: 10, Left: 6, Right: 9}},
	}, api.Circuit{Max: 3, Inputs: []int{2, 4}, Bads: []int{7, 0, 1}, Ands: []api.And{{Out: 6, Left: 4, Right: 2}}}, 0, 2, 4, 6, 6, 0, 0)
	r := rand.New(rand.NewSource(113))
	for range 500 {
		c := api.Circuit{Max: 2, Inputs: []int{4, 2}}
		for out := 6; out < 6+2*r.Intn(9); out += 2 {
			c.Ands = append(c.Ands, api.And{Out: out, Left: r.Intn(out), Right: r.Intn(out)})
			c.Max, c.Outputs = out/2, append(c.Outputs, r.Intn(out))
		}
		sweepsAsBuilt(t, c)
	}
}

// 11.1: one latch, of each Reset and Next: it is constant if its Next is what it begins with, or its own literal, and if it does not begin with either value.
func TestOneLatch(t *testing.T) {
	for next := range 6 {
		for _, reset := range []int{0, 1, own} {
			c := api.Circuit{Max: 2, Inputs: []int{2}, Latches: latches(4, [2]int{next, reset}), Bads: []int{4, 5}}
			if reset != own && (next == reset || next == 4) {
				sweeps(t, c, api.Circuit{Max: 1, Inputs: []int{2}, Bads: []int{reset, 1 - reset}}, 0, 2, reset)
			} else {
				sweeps(t, c, c, 0, 2, 4)
			}
		}
	}
}

// 11.1: latches that settle by one another: a ring that begins with one value stays so, one that begins with two does not; what follows a constant one is constant from its first step on, if it began so.
func TestLatchesThatSettle(t *testing.T) {
	ring := func(a, b int) api.Circuit {
		return api.Circuit{Max: 2, Latches: latches(2, [2]int{4, a}, [2]int{2, b}), Bads: []int{2, 5}}
	}
	sweeps(t, ring(0, 0), api.Circuit{Bads: []int{0, 1}}, 0, 0, 0)
	sweeps(t, ring(1, 1), api.Circuit{Bads: []int{1, 0}}, 0, 1, 1)
	for _, x := range [][2]int{{0, 1}, {1, 0}, {0, own}, {own, 0}, {1, own}, {own, 1}, {own, own}} {
		sweeps(t, ring(x[0], x[1]), ring(x[0], x[1]), 0, 2, 4)
	}
	// 2 stays 1, 4 is its negation, 6 both; 8 is not 6, but begins with 0.
	sweeps(t, api.Circuit{
		Max: 5, Latches: latches(2, [2]int{2, 1}, [2]int{3, 0}, [2]int{10, 0}, [2]int{7, 0}), Outputs: []int{2, 4, 6, 8, 10}, Ands: []api.And{{Out: 10, Left: 2, Right: 4}},
	}, api.Circuit{Max: 1, Latches: latches(2, [2]int{1, 0}), Outputs: []int{1, 0, 0, 2, 0}}, 0, 1, 0, 0, 2, 0)
}

// 11.1: a row of latches of which the last one is what an input was some steps ago is not constant, though it is so for some steps; what it and a constant one are both is.
func TestLatchesThatSettleLate(t *testing.T) {
	row := latches(4, [2]int{2, 0}, [2]int{4, 0}, [2]int{6, 0}, [2]int{8, 0})
	c := api.Circuit{
		Max: 8, Inputs: []int{2}, Latches: append(latches(12, [2]int{16, 0}, [2]int{14, 0}), row...), Outputs: []int{10, 12, 14, 17}, Ands: []api.And{{Out: 16, Left: 10, Right: 14}},
	}
	sweeps(t, c, api.Circuit{Max: 5, Inputs: []int{2}, Latches: row, Outputs: []int{10, 0, 0, 1}}, 0, 2, 4, 6, 8, 10, 0, 0, 0)
	// If the constant one is 1, it is what the last one of the row was.
	c.Latches[1] = api.Latch{Lit: 14, Next: 14, Reset: 1}
	want := latches(4, [2]int{12, 0}, [2]int{2, 0}, [2]int{6, 0}, [2]int{8, 0}, [2]int{10, 0})
	sweeps(t, c, api.Circuit{Max: 6, Inputs: []int{2}, Latches: want, Outputs: []int{12, 4, 1, 13}}, 0, 2, 6, 8, 10, 12, 4, 1, 12)
}

// 11.1: of latches that have the same Next, those of the same Reset, 0 or 1, are the first one of them; those that begin with either value stay.
func TestLatchesOfOneNext(t *testing.T) {
	c := api.Circuit{
		Max: 8, Inputs: []int{2}, Latches: latches(4, [2]int{2, 0}, [2]int{2, 1}, [2]int{2, 0}, [2]int{2, own}, [2]int{2, 1}, [2]int{2, 0}, [2]int{2, own}),
		Outputs: []int{4, 6, 8, 10, 12, 14, 16, 5, 7, 9, 11, 13, 15, 17},
	}
	sweeps(t, c, api.Circuit{
		Max: 5, Inputs: []int{2}, Latches: latches(4, [2]int{2, 0}, [2]int{2, 1}, [2]int{2, own}, [2]int{2, own}), Outputs: []int{4, 6, 4, 8, 6, 4, 10, 5, 7, 5, 9, 7, 5, 11},
	}, 0, 2, 4, 6, 4, 8, 6, 4, 10)
	// Which one is first, the list says, not the variables.
	sweeps(t, api.Circuit{
		Max: 4, Inputs: []int{4}, Latches: []api.Latch{{Lit: 8, Next: 5, Reset: 1}, {Lit: 2, Next: 2}, {Lit: 6, Next: 5, Reset: 1}}, Bads: []int{6},
	}, api.Circuit{Max: 2, Inputs: []int{2}, Latches: latches(4, [2]int{3, 1}), Bads: []int{4}}, 0, 0, 2, 4, 4)
}

// 11.1: latches whose Next is one of them, or its negation: what they come to has the new literal.
func TestLatchesThatUseOneAnother(t *testing.T) {
	for _, at := range []int{2, 4, 6} {
		c := api.Circuit{Max: 3, Latches: latches(2, [2]int{at + 1, 1}, [2]int{at + 1, 1}, [2]int{at + 1, 1}), Bads: []int{7}}
		sweeps(t, c, api.Circuit{Max: 1, Latches: latches(2, [2]int{3, 1}), Bads: []int{3}}, 0, 2, 2, 2)
	}
	// Two that turn each on its own, and two that turn each other, are not seen to be equal.
	for _, c := range []api.Circuit{
		{Max: 2, Latches: latches(2, [2]int{3, 0}, [2]int{5, 0})}, {Max: 2, Latches: latches(2, [2]int{5, 0}, [2]int{3, 0})}, {Max: 2, Latches: latches(2, [2]int{3, 0}, [2]int{2, 1})},
		{Max: 3, Inputs: []int{2}, Latches: latches(4, [2]int{2, 0}, [2]int{3, 0})}, {Max: 3, Inputs: []int{2}, Latches: latches(4, [2]int{2, 0}, [2]int{3, 1})},
	} {
		sweepsAsBuilt(t, c)
		sweeps(t, c, c, upTo(0, 2*c.Max)...)
	}
}

// 11.1: latches that are alike but behind a round, or more: what they use is a latch that was left away, or a gate of such.
func TestMoreRounds(t *testing.T) {
	c := api.Circuit{Max: 7, Inputs: []int{2}, Latches: latches(4, [2]int{8, 0}, [2]int{10, 0}, [2]int{13, 1}, [2]int{15, 1}, [2]int{2, 0}, [2]int{2, 0}), Bads: []int{4, 7}}
	sweeps(t, c, api.Circuit{Max: 4, Inputs: []int{2}, Latches: latches(4, [2]int{6, 0}, [2]int{9, 1}, [2]int{2, 0}), Bads: []int{4, 5}}, 0, 2, 4, 4, 6, 6, 8, 8)
	// 12 and 14 are one gate if 8 and 10 are one latch; 16 is the negation of it.
	c = api.Circuit{
		Max: 9, Inputs: []int{2}, Latches: latches(4, [2]int{14, 0}, [2]int{17, 0}, [2]int{2, 0}, [2]int{2, 0}), Outputs: []int{14, 17, 18},
		Ands: []api.And{{Out: 18, Left: 6, Right: 4}, {Out: 16, Left: 13, Right: 1}, {Out: 14, Left: 3, Right: 8}, {Out: 12, Left: 10, Right: 3}},
	}
	sweeps(t, c, api.Circuit{
		Max: 4, Inputs: []int{2}, Latches: latches(4, [2]int{8, 0}, [2]int{2, 0}), Outputs: []int{8, 8, 4}, Ands: []api.And{{Out: 8, Left: 6, Right: 3}},
	}, 0, 2, 4, 4, 6, 6, 8, 8, 9, 4)
	// Gates that are alike from the beginning are one ahead of the first round.
	c = api.Circuit{
		Max: 6, Inputs: []int{2}, Latches: latches(4, [2]int{10, own}, [2]int{12, 0}, [2]int{10, 0}), Bads: []int{8}, Ands: []api.And{{Out: 10, Left: 5, Right: 2}, {Out: 12, Left: 2, Right: 5}},
	}
	sweeps(t, c, api.Circuit{
		Max: 4, Inputs: []int{2}, Latches: latches(4, [2]int{8, own}, [2]int{8, 0}), Bads: []int{6}, Ands: []api.And{{Out: 8, Left: 5, Right: 2}},
	}, 0, 2, 4, 6, 6, 8, 8)
}

// 11.1: gates that become 0, 1, or a latch, negated or not, when latches do; a latch that is but so seen to be constant, and what uses it.
func TestGatesThatGo(t *testing.T) {
	c := api.Circuit{
		Max: 11, Inputs: []int{2}, Latches: latches(4, [2]int{2, 0}, [2]int{2, 0}, [2]int{14, 0}, [2]int{14, 1}, [2]int{15, 1}), Outputs: []int{8, 10, 12, 14, 16, 18, 20, 21, 22},
		Ands: []api.And{{Out: 22, Left: 12, Right: 9}, {Out: 20, Left: 8, Right: 2}, {Out: 18, Left: 5, Right: 7}, {Out: 16, Left: 6, Right: 4}, {Out: 14, Left: 4, Right: 7}},
	}
	sweeps(t, c, api.Circuit{
		Max: 3, Inputs: []int{2}, Latches: latches(4, [2]int{2, 0}, [2]int{0, 1}), Outputs: []int{0, 6, 1, 0, 4, 5, 0, 1, 1},
	}, 0, 2, 4, 4, 0, 6, 1, 0, 4, 5, 0, 1)
	// A gate that nothing uses any more stays.
	c = api.Circuit{
		Max: 6, Inputs: []int{2}, Latches: latches(4, [2]int{2, 0}, [2]int{12, 0}, [2]int{8, 0}), Ands: []api.And{{Out: 10, Left: 4, Right: 3}, {Out: 12, Left: 10, Right: 8}},
	}
	sweeps(t, c, api.Circuit{Max: 3, Inputs: []int{2}, Latches: latches(4, [2]int{2, 0}), Ands: []api.And{{Out: 6, Left: 4, Right: 3}}}, 0, 2, 4, 0, 0, 6, 0)
}

// 11.1: a circuit with something in each list: literals that become 0, 1, or another one, negated too; variables that nothing defines; symbols of latches that are left away, and of those behind them, among others; comments.
func TestAllLists(t *testing.T) {
	c := api.Circuit{
		Max: 9, Inputs: []int{18, 2}, Latches: []api.Latch{{Lit: 4, Next: 4}, {Lit: 6, Next: 18, Reset: 6}, {Lit: 8, Next: 3, Reset: 1}, {Lit: 10, Next: 3, Reset: 1}, {Lit: 14, Next: 14, Reset: 1}},
		Outputs: []int{4, 5, 10, 16, 17}, Bads: []int{14, 15, 11}, Constraints: []int{5, 14, 6}, Justice: [][]int{{}, {4, 14}, {10, 7, 16}}, Fairness: []int{15, 9, 17},
		Ands: []api.And{{Out: 16, Left: 8, Right: 11}},
		Symbols: []api.Symbol{
			{Kind: 'l', At: 3, Name: "d"}, {Kind: 'i', At: 1, Name: "in"}, {Kind: 'l', At: 0, Name: "a"}, {Kind: 'f', At: 2, Name: "fair"}, {Kind: 'l', At: 1, Name: "b"}, {Kind: 'o', At: 4, Name: "out"},
			{Kind: 'l', At: 4, Name: "e"}, {Kind: 'b', At: 2, Name: "bad"}, {Kind: 'l', At: 2, Name: "c"}, {Kind: 'c', At: 1, Name: "con"}, {Kind: 'j', At: 0, Name: "just"},
		},
		Comments: []string{"d", "", "l3 d\x00"},
	}
	sweeps(t, c, api.Circuit{
		Max: 4, Inputs: []int{2, 4}, Latches: latches(6, [2]int{2, own}, [2]int{5, 1}),
		Outputs: []int{0, 1, 8, 0, 1}, Bads: []int{1, 0, 9}, Constraints: []int{1, 1, 6}, Justice: [][]int{{}, {0, 1}, {8, 7, 0}}, Fairness: []int{0, 9, 1},
		Symbols: []api.Symbol{
			{Kind: 'i', At: 1, Name: "in"}, {Kind: 'f', At: 2, Name: "fair"}, {Kind: 'l', At: 0, Name: "b"}, {Kind: 'o', At: 4, Name: "out"},
			{Kind: 'b', At: 2, Name: "bad"}, {Kind: 'l', At: 1, Name: "c"}, {Kind: 'c', At: 1, Name: "con"}, {Kind: 'j', At: 0, Name: "just"},
		},
		Comments: []string{"d", "", "l3 d\x00"},
	}, 0, 4, 0, 6, 8, 8, 0, 1, 0, 2)
	// Of this one all latches stay.
	sweepsAsBuilt(t, samples.Right())
}

// 11.1: the symbols of latches that are left away in one round, in a later one, or not at all.
func TestSymbolsBehindRounds(t *testing.T) {
	c := api.Circuit{Max: 8, Inputs: []int{2}, Latches: latches(4, [2]int{0, 0}, [2]int{8, 1}, [2]int{2, 1}, [2]int{2, 1}, [2]int{10, 1}, [2]int{1, 1}, [2]int{12, 0})}
	for _, at := range []int{6, 0, 3, 5, 2, 4, 1} {
		c.Symbols = append(c.Symbols, api.Symbol{Kind: 'l', At: at, Name: string(rune('a' + at))})
	}
	sweeps(t, c, api.Circuit{
		Max: 4, Inputs: []int{2}, Latches: latches(4, [2]int{6, 1}, [2]int{2, 1}, [2]int{4, 0}), Symbols: []api.Symbol{{Kind: 'l', At: 2, Name: "g"}, {Kind: 'l', At: 1, Name: "c"}, {Kind: 'l', At: 0, Name: "b"}},
	}, 0, 2, 0, 4, 6, 6, 4, 1, 8)
	c.Inputs, c.Latches[2].Next, c.Latches[3].Next = nil, 1, 1
	c.Ands, c.Symbols = []api.And{{Out: 2, Left: 1, Right: 1}}, c.Symbols[:6]
	sweeps(t, c, api.Circuit{Max: 1, Latches: latches(2, [2]int{1, 0}), Symbols: []api.Symbol{{Kind: 'l', At: 0, Name: "g"}}}, 0, 1, 0, 1, 1, 1, 1, 1, 2)
}

// 11.1: all circuits of an input, two latches and a gate, and of three latches, in each order of the latches.
func TestSmallCircuits(t *testing.T) {
	resets := samples.AllLists(3, 0, 1, own)
	some := api.Trace{Init: []bool{true}, Inputs: [][]bool{{true}}}
	for _, next := range samples.AllLists(2, 0, 1, 2, 4, 5, 6, 8, 9) {
		for _, lits := range samples.AllLists(2, 2, 4, 5, 6, 7) {
			for _, reset := range resets[:9] {
				x, y := [2]int{next[0], reset[1]}, [2]int{next[1], reset[2]}
				asWords(t, api.Circuit{Max: 4, Inputs: []int{2}, Latches: latches(4, x, y), Bads: []int{5, 6, 9}, Ands: []api.And{{Out: 8, Left: lits[0], Right: lits[1]}}}, some)
			}
		}
	}
	some.Inputs = [][]bool{{}}
	for _, next := range samples.AllLists(3, 0, 1, 2, 3, 4, 5, 6, 7) {
		for _, reset := range resets {
			all := latches(2, [2]int{next[0], reset[0]}, [2]int{next[1], reset[1]}, [2]int{next[2], reset[2]})
			asWords(t, api.Circuit{Max: 3, Latches: all, Outputs: []int{2, 5, 6}}, some)
			all[0], all[1], all[2] = all[2], all[0], all[1]
			asWords(t, api.Circuit{Max: 3, Latches: all, Outputs: []int{2, 5, 6}}, some)
		}
	}
}
