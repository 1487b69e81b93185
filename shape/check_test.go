package shape_test

import (
	"math"
	"math/rand"
	"slices"
	"strings"
	"testing"

	"trestle/api"
	"trestle/samples"
	"trestle/shape"
)

// checks holds Check against what is wanted.
func checks(t *testing.T, what any, c api.Circuit, at int, want api.Errno) {
	t.Helper()
	if n, e := shape.Check(c); n != at || e != want {
		t.Errorf("%v: %d, %v, want %d, %v", what, n, e, at, want)
	}
}

// 3.1: the chapter's examples.
func TestCheckByExample(t *testing.T) {
	for i, x := range []struct {
		c    api.Circuit
		at   int
		want api.Errno
	}{
		{api.Circuit{Max: 3, Inputs: []int{2, 4}, Ands: []api.And{{Out: 6, Left: 2, Right: 4}}}, 0, api.OK},
		{api.Circuit{Max: 2, Ands: []api.And{{Out: 2, Left: 4, Right: 4}, {Out: 4, Left: 2, Right: 2}}}, 0, api.ErrCycle},
		{api.Circuit{Max: 3, Inputs: []int{3}}, 0, api.ErrLit},
		{api.Circuit{Max: 3, Inputs: []int{2, 2}}, 1, api.ErrTwice},
		{api.Circuit{Max: 3, Inputs: []int{2}, Outputs: []int{8}}, 0, api.ErrLit},
		{api.Circuit{Max: 3, Inputs: []int{2}, Outputs: []int{6}}, 0, api.ErrLoose},
		{api.Circuit{Max: 2, Latches: []api.Latch{{Lit: 2, Next: 2, Reset: 4}}}, 0, api.ErrReset},
		{api.Circuit{Max: 9, Inputs: []int{8}, Latches: []api.Latch{{Lit: 4}}, Ands: []api.And{{Out: 6, Left: 9, Right: 4}}}, 0, api.OK},
	} {
		checks(t, i, x.c, x.at, x.want)
	}
}

// 3.1: circuits that are right: with nothing in them, with lists nil or empty, with each Max at its ends, with something in each list.
func TestCheckOfRightCircuits(t *testing.T) {
	empty := api.Circuit{
		Inputs: []int{}, Latches: []api.Latch{}, Outputs: []int{}, Bads: []int{}, Constraints: []int{}, Justice: [][]int{}, Fairness: []int{},
		Ands: []api.And{}, Symbols: []api.Symbol{}, Comments: []string{},
	}
	for i, c := range []api.Circuit{
		{}, empty, {Max: 1}, {Max: api.MaxVar}, samples.Right(), samples.Clone(samples.Right()),
		{Outputs: []int{0, 1}, Bads: []int{1}, Constraints: []int{0}, Justice: [][]int{{}, nil, {0, 1}}, Fairness: []int{0}},
		{Max: api.MaxVar, Inputs: []int{2 * api.MaxVar}, Outputs: []int{2*api.MaxVar + 1, 2 * api.MaxVar}},
		{Max: 1, Latches: []api.Latch{{Lit: 2, Next: 3, Reset: 2}}}, {Max: 1, Ands: []api.And{{Out: 2, Left: 1, Right: 0}}},
	} {
		checks(t, i, c, 0, api.OK)
	}
}

// 3.1, R1: each thing that is wrong by itself, and each two of them: the one that the chapter names first is answered.
func TestCheckOfFaults(t *testing.T) {
	all := samples.Faults()
	for i, first := range all {
		for _, second := range all[i:] {
			for _, turn := range [][]samples.Fault{{first, second}, {second, first}} {
				c := samples.Clone(samples.Right())
				turn[0].Do(&c)
				turn[1].Do(&c)
				checks(t, first.Name+", "+second.Name, c, first.At, first.Want)
			}
		}
	}
}

// 3.1: Max outside of its range, ahead of all else.
func TestCheckOfMax(t *testing.T) {
	for _, n := range []int{-1, api.MaxVar + 1, math.MinInt, math.MaxInt} {
		checks(t, n, api.Circuit{Max: n}, 0, api.ErrRange)
		c := samples.Clone(samples.Right())
		c.Max, c.Inputs, c.Comments = n, make([]int, api.MaxItems+1), []string{"\n"}
		checks(t, n, c, 0, api.ErrRange)
	}
}

// longs is, of each list, circuits with that list of n members; what the members are is wrong only ahead of Max 0, if they are things that define.
func longs(n int) map[string]api.Circuit {
	return map[string]api.Circuit{
		"Inputs": {Inputs: make([]int, n)}, "Latches": {Latches: make([]api.Latch, n)}, "Outputs": {Outputs: make([]int, n)},
		"Bads": {Bads: make([]int, n)}, "Constraints": {Constraints: make([]int, n)}, "Justice": {Justice: make([][]int, n)},
		"Fairness": {Fairness: make([]int, n)}, "Ands": {Ands: make([]api.And, n)}, "Symbols": {Symbols: make([]api.Symbol, n)},
		"Comments": {Comments: make([]string, n)}, "one justice": {Justice: [][]int{nil, make([]int, n)}},
		"all justice": {Justice: [][]int{make([]int, n/2), {}, make([]int, n-n/2)}},
	}
}

// 3.1: lists of as many members as may be, and of one more, which is ahead of what is wrong with these.
func TestCheckOfLongLists(t *testing.T) {
	for name, c := range longs(api.MaxItems + 1) {
		checks(t, name, c, 0, api.ErrLong)
		c.Outputs = append(c.Outputs, -1)
		checks(t, name, c, 0, api.ErrLong)
	}
	for name, c := range longs(api.MaxItems) {
		want := api.OK
		switch name {
		case "Inputs", "Latches", "Ands":
			want = api.ErrLit
		case "Symbols":
			want = api.ErrSymbol
		}
		checks(t, name, c, 0, want)
	}
	over := slices.Repeat([][]int{{-1}}, api.MaxItems)
	over[7] = []int{9, 9}
	checks(t, "a literal too many", api.Circuit{Justice: over}, 0, api.ErrLong)
	over[7], over[9] = []int{0}, []int{}
	checks(t, "a literal less", api.Circuit{Justice: over}, 0, api.ErrLit)
}

// 3.1: as many inputs, latches, gates as there may be variables.
func TestCheckOfFullCircuits(t *testing.T) {
	inputs, latches, symbols := api.Circuit{Max: api.MaxVar}, api.Circuit{Max: api.MaxVar}, []api.Symbol{}
	for v := api.MaxVar; v >= 1; v-- {
		inputs.Inputs = append(inputs.Inputs, 2*v)
		latches.Latches = append(latches.Latches, api.Latch{Lit: 2 * v, Next: 2*(api.MaxVar-v) + 1, Reset: 2 * v})
		symbols = append(symbols, api.Symbol{Kind: 'l', At: v - 1, Name: strings.Repeat("n", api.MaxName)})
	}
	latches.Symbols = symbols
	checks(t, "inputs", inputs, 0, api.OK)
	checks(t, "latches", latches, 0, api.OK)
	inputs.Inputs[api.MaxVar-1] = 2 * api.MaxVar
	checks(t, "inputs", inputs, api.MaxVar-1, api.ErrTwice)
	latches.Symbols[api.MaxItems-1].At = 1
	checks(t, "latches", latches, api.MaxItems-1, api.ErrSymbol)
}

// 3.1: what is defined, at both ends of its range and outside, at the first and the last place of each list.
func TestCheckOfDefinedLiterals(t *testing.T) {
	for _, most := range []int{4, api.MaxVar} {
		for _, x := range []struct {
			lit  int
			want api.Errno
		}{
			{2, api.OK}, {2 * most, api.OK}, {0, api.ErrLit}, {1, api.ErrLit}, {-1, api.ErrLit}, {-2, api.ErrLit}, {3, api.ErrLit}, {2*most - 1, api.ErrLit},
			{2*most + 1, api.ErrLit}, {2*most + 2, api.ErrLit}, {math.MaxInt, api.ErrLit}, {math.MaxInt - 1, api.ErrLit}, {math.MinInt, api.ErrLit}, {math.MinInt + 1, api.ErrLit},
		} {
			for at := range 2 {
				two := []int{4, 4}
				two[at], two[1-at] = x.lit, 6
				tell := at
				if x.want == api.OK {
					tell = 0
				}
				checks(t, x, api.Circuit{Max: most, Inputs: two}, tell, x.want)
				checks(t, x, api.Circuit{Max: most, Latches: []api.Latch{{Lit: two[0]}, {Lit: two[1]}}}, tell, x.want)
				checks(t, x, api.Circuit{Max: most, Ands: []api.And{{Out: two[0]}, {Out: two[1]}}}, tell, x.want)
			}
		}
	}
}

// 3.1: a variable that two things define, of one list or of two: the one behind is told.
func TestCheckOfVariablesDefinedTwice(t *testing.T) {
	put := []func(c *api.Circuit, l int) int{
		func(c *api.Circuit, l int) int { c.Inputs = append(c.Inputs, l); return len(c.Inputs) - 1 },
		func(c *api.Circuit, l int) int {
			c.Latches = append(c.Latches, api.Latch{Lit: l, Reset: l})
			return len(c.Latches) - 1
		},
		func(c *api.Circuit, l int) int { c.Ands = append(c.Ands, api.And{Out: l}); return len(c.Ands) - 1 },
	}
	for i := range put {
		for k := i; k < len(put); k++ {
			for _, l := range []int{2, 8} {
				c := api.Circuit{Max: 4, Inputs: []int{4}, Ands: []api.And{{Out: 6}}}
				put[i](&c, l)
				at := put[k](&c, l)
				checks(t, []int{i, k, l}, c, at, api.ErrTwice)
			}
		}
	}
}

// 3.1: resets that may be, and that may not; a latch's literal goes ahead of its reset, and its reset ahead of the next latch.
func TestCheckOfResets(t *testing.T) {
	for _, x := range []struct {
		reset int
		want  api.Errno
	}{
		{0, api.OK}, {1, api.OK}, {4, api.OK}, {5, api.ErrReset}, {2, api.ErrReset}, {6, api.ErrReset}, {3, api.ErrReset}, {-1, api.ErrReset}, {-4, api.ErrReset},
		{api.MaxVar, api.ErrReset}, {math.MaxInt, api.ErrReset}, {math.MinInt, api.ErrReset},
	} {
		checks(t, x, api.Circuit{Max: 3, Inputs: []int{2}, Latches: []api.Latch{{Lit: 4, Reset: x.reset}, {Lit: 6}}}, 0, x.want)
	}
	checks(t, "of the second", api.Circuit{Max: 3, Latches: []api.Latch{{Lit: 4, Reset: 4}, {Lit: 6, Reset: 4}}}, 1, api.ErrReset)
	checks(t, "odd", api.Circuit{Max: 3, Latches: []api.Latch{{Lit: 5, Reset: 7}}}, 0, api.ErrLit)
	checks(t, "twice", api.Circuit{Max: 3, Inputs: []int{4}, Latches: []api.Latch{{Lit: 4, Reset: 7}}}, 0, api.ErrTwice)
	checks(t, "ahead", api.Circuit{Max: 3, Latches: []api.Latch{{Lit: 4, Reset: 7}, {Lit: 5}}}, 0, api.ErrReset)
}

// users puts a literal where each kind of thing uses one, as that list's second, and tells the number that is said of it.
func users() []func(c *api.Circuit, l int) int {
	return []func(c *api.Circuit, l int) int{
		func(c *api.Circuit, l int) int { c.Latches[1].Next = l; return 1 },
		func(c *api.Circuit, l int) int { c.Outputs = []int{0, l}; return 1 },
		func(c *api.Circuit, l int) int { c.Bads = []int{0, 1, l}; return 2 },
		func(c *api.Circuit, l int) int { c.Constraints = []int{l}; return 0 },
		func(c *api.Circuit, l int) int { c.Justice = [][]int{{2}, {}, {0, 1, l}}; return 2 },
		func(c *api.Circuit, l int) int { c.Fairness = []int{0, 1, 2, l}; return 3 },
		func(c *api.Circuit, l int) int { c.Ands[0].Left = l; return 0 },
		func(c *api.Circuit, l int) int { c.Ands[0].Right = l; return 0 },
		func(c *api.Circuit, l int) int { c.Ands[2].Left = l; return 2 },
		func(c *api.Circuit, l int) int { c.Ands[2].Right = l; return 2 },
	}
}

// used is a circuit with room for each kind of use; its variables 4 and MaxVar - 1 are not defined.
func used() api.Circuit {
	return api.Circuit{
		Max: api.MaxVar, Inputs: []int{2 * api.MaxVar, 2}, Latches: []api.Latch{{Lit: 4}, {Lit: 6}},
		Ands: []api.And{{Out: 10}, {Out: 12}, {Out: 14}},
	}
}

// 3.1: literals that are used, at both ends of their range and outside, and of variables that nothing defines, in each place.
func TestCheckOfUsedLiterals(t *testing.T) {
	for _, x := range []struct {
		lit  int
		want api.Errno
	}{
		{0, api.OK}, {1, api.OK}, {2, api.OK}, {3, api.OK}, {4, api.OK}, {7, api.OK}, {12, api.OK}, {13, api.OK}, {2 * api.MaxVar, api.OK}, {2*api.MaxVar + 1, api.OK},
		{-1, api.ErrLit}, {-2, api.ErrLit}, {2*api.MaxVar + 2, api.ErrLit}, {2*api.MaxVar + 3, api.ErrLit}, {math.MaxInt, api.ErrLit}, {math.MinInt, api.ErrLit},
		{8, api.ErrLoose}, {9, api.ErrLoose}, {2*api.MaxVar - 2, api.ErrLoose}, {2*api.MaxVar - 1, api.ErrLoose},
	} {
		for i, put := range users() {
			c := used()
			at := put(&c, x.lit)
			if x.want == api.OK {
				at = 0
			}
			checks(t, []int{i, x.lit}, c, at, x.want)
		}
	}
}

// 3.1: of two wrong literals the first one is told, whichever of both errors it has; what is defined goes ahead.
func TestCheckOfUsedLiteralsInOrder(t *testing.T) {
	wrong := map[int]api.Errno{-1: api.ErrLit, 8: api.ErrLoose}
	for i, first := range users() {
		for k, second := range users()[i+1:] {
			for l, want := range wrong {
				for m := range wrong {
					c := used()
					at := first(&c, l)
					second(&c, m)
					checks(t, []int{i, i + 1 + k, l, m}, c, at, want)
					c.Ands[2].Out = 2
					checks(t, "ahead of it", c, 2, api.ErrTwice)
				}
			}
		}
	}
	for l, want := range wrong {
		for m := range wrong {
			checks(t, "one behind the other", api.Circuit{Max: 4, Bads: []int{0, l, m}}, 1, want)
			checks(t, "one behind the other", api.Circuit{Max: 4, Justice: [][]int{{0}, {1, l, m}, {m}}}, 1, want)
		}
	}
}

// 3.1: the letters of kinds, at the first, the last and no place of each list.
func TestCheckOfSymbols(t *testing.T) {
	counts := map[byte]int{'i': 2, 'l': 3, 'o': 3, 'b': 2, 'c': 2, 'j': 3, 'f': 2}
	for kind := range 256 {
		c := samples.Right()
		n := counts[byte(kind)]
		for _, at := range []int{0, n - 1, n, n + 1, -1, math.MaxInt, math.MinInt} {
			want := api.OK
			if at < 0 || at >= n {
				want = api.ErrSymbol
			}
			c.Symbols = []api.Symbol{{Kind: byte(kind), At: at, Name: "n"}}
			checks(t, []int{kind, at}, c, 0, want)
		}
	}
	for _, kind := range []byte("ilobcjf") {
		checks(t, "of an empty list", api.Circuit{Symbols: []api.Symbol{{Kind: kind, Name: "n"}}}, 0, api.ErrSymbol)
	}
}

// 3.1: names of 0, 1, MaxName and one more bytes, of all bytes, at the front and at the end.
func TestCheckOfNames(t *testing.T) {
	named := func(s string) api.Circuit {
		return api.Circuit{Max: 2, Inputs: []int{2, 4}, Symbols: []api.Symbol{{Kind: 'i', At: 1, Name: "n"}, {Kind: 'i', At: 0, Name: s}}}
	}
	for n, want := range map[int]api.Errno{0: api.ErrSymbol, 1: api.OK, 2: api.OK, api.MaxName: api.OK, api.MaxName + 1: api.ErrSymbol, 1000: api.ErrSymbol} {
		at := 0
		if want != api.OK {
			at = 1
		}
		checks(t, n, named(strings.Repeat("~", n)), at, want)
	}
	for b := range 256 {
		at, want := 0, api.OK
		if b < 32 {
			at, want = 1, api.ErrSymbol
		}
		s := string([]byte{byte(b)})
		for _, name := range []string{s, s + "n", "n" + s, strings.Repeat("n", api.MaxName-1) + s, strings.Repeat(s, api.MaxName)} {
			checks(t, b, named(name), at, want)
		}
	}
	// A limit of bytes is none of characters.
	checks(t, "two bytes each", named(strings.Repeat("é", api.MaxName/2)), 0, api.OK)
	checks(t, "two bytes each", named(strings.Repeat("é", api.MaxName/2+1)), 1, api.ErrSymbol)
}

// 3.1: a symbol of the Kind and At of one ahead; the same At of another Kind, and the same Name, may be.
func TestCheckOfSymbolsTwice(t *testing.T) {
	c := samples.Right()
	c.Symbols = nil
	for _, kind := range []byte("ilobcjf") {
		for at := range 2 {
			c.Symbols = append(c.Symbols, api.Symbol{Kind: kind, At: at, Name: "same"})
		}
	}
	checks(t, "each once", c, 0, api.OK)
	for i, s := range c.Symbols {
		again := samples.Clone(c)
		again.Symbols = append(again.Symbols, api.Symbol{Kind: s.Kind, At: s.At, Name: "other"})
		checks(t, i, again, len(c.Symbols), api.ErrSymbol)
	}
}

// 3.1: a byte 10 in a comment, wherever it stands; all other bytes may be.
func TestCheckOfComments(t *testing.T) {
	var most []byte
	for b := range 256 {
		if b != 10 {
			most = append(most, byte(b))
		}
	}
	checks(t, "all but 10", api.Circuit{Comments: []string{string(most), "", strings.Repeat("c", api.MaxText)}}, 0, api.OK)
	for i, s := range []string{"\n", "a\n", "\na", "a\na", "\n\n", string(most) + "\n"} {
		checks(t, i, api.Circuit{Comments: []string{s}}, 0, api.ErrComment)
		checks(t, i, api.Circuit{Comments: []string{"", "a", s, "\n"}}, 2, api.ErrComment)
	}
}

// 3.1: circuits by chance, with up to three numbers changed: Check says what the chapter's words say.
func TestCheckByChance(t *testing.T) {
	r := rand.New(rand.NewSource(31))
	seen := map[api.Errno]int{}
	for range 40000 {
		c := samples.Circuit(r.Intn)
		for range r.Intn(4) {
			all := samples.NumbersOf(&c)
			to := r.Intn(2*max(c.Max, 0)+6) - 2
			if from := r.Intn(len(all)); from > 0 || to < 30 {
				*all[from] = to
			}
		}
		at, want := checkOf(c)
		if n, e := shape.Check(c); n != at || e != want {
			t.Fatalf("%+v: %d, %v, want %d, %v", c, n, e, at, want)
		}
		seen[want]++
	}
	for _, e := range samples.CodesOfNumbers() {
		if seen[e] < 20 {
			t.Errorf("%v came but %d times", e, seen[e])
		}
	}
}

// 3.1: all others that take a circuit, but Copy and Same, answer what Check refuses, and nothing beside it.
func TestOthersRefuse(t *testing.T) {
	for _, f := range samples.Faults() {
		c := f.Circuit()
		l, e := shape.Order(c)
		n, m, g := shape.Renumber(c)
		ok, h := shape.IsBinary(c)
		if e != f.Want || g != f.Want || h != f.Want || len(l) != 0 || len(m) != 0 || !isNothing(n) || ok {
			t.Errorf("%s: Order %v, %v; Renumber %+v, %v, %v; IsBinary %v, %v; want %v", f.Name, l, e, n, m, g, ok, h, f.Want)
		}
	}
}
