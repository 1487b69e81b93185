package cone_test

import (
	"math/rand"
	"slices"
	"testing"

	"trestle/api"
	"trestle/samples"
	"trestle/shape"
)

// 10.2: the chapter's example, both bads.
func TestCutByExample(t *testing.T) {
	cuts(t, example(), bad(0), api.Cut{
		C:    api.Circuit{Max: 2, Inputs: []int{2}, Latches: []api.Latch{{Lit: 4, Next: 2}}, Bads: []int{4}},
		Lits: []int{0, 2, -1, 4, -1, -1}, Inputs: []int{0}, Latches: []int{0},
	})
	cuts(t, example(), bad(1), api.Cut{
		C:    api.Circuit{Max: 3, Inputs: []int{2}, Latches: []api.Latch{{Lit: 4, Next: 6}}, Bads: []int{4}, Ands: []api.And{{Out: 6, Left: 4, Right: 2}}},
		Lits: []int{0, -1, 2, -1, 4, 6}, Inputs: []int{1}, Latches: []int{1},
	})
}

// allOf is the cut that has all of a circuit whose inputs, latches and gates are numbered one behind the other.
func allOf(c api.Circuit) api.Cut {
	x := api.Cut{C: c}
	for v := range c.Max + 1 {
		x.Lits = append(x.Lits, 2*v)
	}
	for i := range c.Inputs {
		x.Inputs = append(x.Inputs, i)
	}
	for i := range c.Latches {
		x.Latches = append(x.Latches, i)
	}
	return x
}

// 10.2: of a justice property all latches are in the cone, whatever its literals are.
func TestCutOfJustice(t *testing.T) {
	for _, j := range [][]int{{9}, {}, {0, 1}, {2, 6, 2}} {
		c := example()
		c.Justice = [][]int{{10}, j}
		want := example()
		want.Bads, want.Justice = nil, [][]int{j}
		cuts(t, c, justice(1), allOf(want))
	}
	// An input and a gate that no latch hangs on are there if a literal, or fairness, hangs on them.
	c := api.Circuit{Max: 3, Inputs: []int{2}, Latches: []api.Latch{{Lit: 4, Next: 5, Reset: 4}}, Bads: []int{6}, Justice: [][]int{{}, {7}, {3}}, Ands: []api.And{{Out: 6, Left: 4, Right: 3}}}
	cuts(t, c, justice(0), api.Cut{C: api.Circuit{Max: 1, Latches: []api.Latch{{Lit: 2, Next: 3, Reset: 2}}, Justice: [][]int{{}}}, Lits: []int{0, -1, 2, -1}, Latches: []int{0}})
	cuts(t, c, justice(2), api.Cut{
		C: api.Circuit{Max: 2, Inputs: []int{2}, Latches: []api.Latch{{Lit: 4, Next: 5, Reset: 4}}, Justice: [][]int{{3}}}, Lits: []int{0, 2, 4, -1}, Inputs: []int{0}, Latches: []int{0},
	})
	want := shape.Copy(c)
	want.Bads, want.Justice = nil, [][]int{{7}}
	cuts(t, c, justice(1), allOf(want))
	c.Fairness, want.Fairness, want.Justice = []int{1, 6, 6}, []int{1, 6, 6}, [][]int{{}}
	cuts(t, c, justice(0), allOf(want))
	// Fairness is nothing to a bad.
	c.Bads = []int{4}
	cuts(t, c, bad(0), api.Cut{C: api.Circuit{Max: 1, Latches: []api.Latch{{Lit: 2, Next: 3, Reset: 2}}, Bads: []int{2}}, Lits: []int{0, -1, 2, -1}, Latches: []int{0}})
}

// 10.2: a circuit with something in each list, variables that nothing defines, gates that stand ahead of what they use: all literals are moved, each Reset too; gates keep their order and which one of their literals is Left; outputs, symbols and comments are gone.
func TestCutOfAllLists(t *testing.T) {
	for i := range 2 {
		cuts(t, samples.Right(), bad(i), api.Cut{
			C: api.Circuit{
				Max: 6, Inputs: []int{2, 4}, Latches: []api.Latch{{Lit: 6, Next: 9, Reset: 6}}, Bads: []int{10}, Constraints: []int{0, 3},
				Ands: []api.And{{Out: 8, Left: 12, Right: 11}, {Out: 10, Left: 5, Right: 6}, {Out: 12, Left: 10, Right: 10}},
			},
			Lits: []int{0, 4, -1, 6, 2, -1, -1, -1, -1, 10, 8, 12, -1}, Inputs: []int{0, 1}, Latches: []int{0},
		})
	}
	want := api.Cut{
		C: api.Circuit{
			Max: 9, Inputs: []int{2, 4}, Latches: []api.Latch{{Lit: 6, Next: 13, Reset: 6}, {Lit: 8, Next: 2, Reset: 1}, {Lit: 10, Next: 9, Reset: 0}},
			Constraints: []int{0, 3}, Justice: [][]int{{18}}, Fairness: []int{11, 16},
			Ands: []api.And{{Out: 12, Left: 16, Right: 15}, {Out: 14, Left: 5, Right: 6}, {Out: 16, Left: 14, Right: 14}, {Out: 18, Left: 0, Right: 12}},
		},
		Lits: []int{0, 4, 10, 6, 2, -1, -1, 8, -1, 14, 12, 16, 18}, Inputs: []int{0, 1}, Latches: []int{0, 1, 2},
	}
	cuts(t, samples.Right(), justice(2), want)
	want.C.Max, want.C.Ands, want.C.Justice, want.Lits[12] = 8, want.C.Ands[:3], [][]int{{}}, -1
	cuts(t, samples.Right(), justice(0), want)
	want.C.Justice = [][]int{{6, 7}}
	cuts(t, samples.Right(), justice(1), want)
}

// 10.2: constraints are roots of a bad and of a justice property, and all of them are in each cut; without them the cut is less.
func TestCutsWithConstraints(t *testing.T) {
	c := example()
	less := cutBy(t, c, bad(0))
	c.Constraints = []int{1, 0, 1}
	less.C.Constraints = []int{1, 0, 1}
	cuts(t, c, bad(0), less)
	c.Constraints = []int{6, 7}
	less.C.Constraints = []int{4, 5}
	cuts(t, c, bad(0), less)
	c.Constraints = []int{11, 0, 11}
	want := shape.Copy(c)
	want.Bads = []int{6}
	cuts(t, c, bad(0), allOf(want))
	want.Bads = []int{8}
	cuts(t, c, bad(1), api.Cut{
		C:    api.Circuit{Max: 3, Inputs: []int{2}, Latches: []api.Latch{{Lit: 4, Next: 6}}, Bads: []int{4}, Constraints: []int{7, 0, 7}, Ands: []api.And{{Out: 6, Left: 4, Right: 2}}},
		Lits: []int{0, -1, 2, -1, 4, 6}, Inputs: []int{1}, Latches: []int{1},
	})
	// Of a justice property they bring in what no latch hangs on.
	c = api.Circuit{Max: 3, Inputs: []int{2, 4}, Constraints: []int{7}, Justice: [][]int{{}}, Ands: []api.And{{Out: 6, Left: 3, Right: 3}}}
	cuts(t, c, justice(0), api.Cut{
		C:    api.Circuit{Max: 2, Inputs: []int{2}, Constraints: []int{5}, Justice: [][]int{{}}, Ands: []api.And{{Out: 4, Left: 3, Right: 3}}},
		Lits: []int{0, 2, -1, 4}, Inputs: []int{0},
	})
}

// 10.2: latches whose Reset is 0, 1 or their own literal, moved and not, in the order of their list.
func TestResets(t *testing.T) {
	c := api.Circuit{
		Max: 6, Inputs: []int{2}, Latches: []api.Latch{{Lit: 12, Next: 13, Reset: 12}, {Lit: 10, Next: 12, Reset: 0}, {Lit: 4, Next: 11, Reset: 1}, {Lit: 8, Next: 4, Reset: 8}},
		Bads: []int{9}, Justice: [][]int{{2}},
	}
	latches := []api.Latch{{Lit: 2, Next: 3, Reset: 2}, {Lit: 4, Next: 2, Reset: 0}, {Lit: 6, Next: 5, Reset: 1}, {Lit: 8, Next: 6, Reset: 8}}
	cuts(t, c, bad(0), api.Cut{C: api.Circuit{Max: 4, Latches: latches, Bads: []int{9}}, Lits: []int{0, -1, 6, -1, 8, 4, 2}, Latches: []int{0, 1, 2, 3}})
	latches = []api.Latch{{Lit: 4, Next: 5, Reset: 4}, {Lit: 6, Next: 4, Reset: 0}, {Lit: 8, Next: 7, Reset: 1}, {Lit: 10, Next: 8, Reset: 10}}
	cuts(t, c, justice(0), api.Cut{C: api.Circuit{Max: 5, Inputs: []int{2}, Latches: latches, Justice: [][]int{{2}}}, Lits: []int{0, 2, 8, -1, 10, 6, 4}, Inputs: []int{0}, Latches: []int{0, 1, 2, 3}})
}

// nothingOf is the cut that has nothing of a circuit.
func nothingOf(c, out api.Circuit) api.Cut {
	lits := slices.Repeat([]int{-1}, c.Max+1)
	lits[0] = 0
	return api.Cut{C: out, Lits: lits}
}

// 10.2: properties of 0 and 1 have nothing of a circuit, if there are no other constraints, and, of justice, no latches.
func TestCutsOfNothing(t *testing.T) {
	for _, c := range []api.Circuit{{}, {Max: 5}, {Max: api.MaxVar}, {Max: 3, Inputs: []int{2, 6}, Ands: []api.And{{Out: 4, Left: 2, Right: 6}}}} {
		c.Outputs, c.Comments = []int{0}, []string{"c"}
		for l := range 2 {
			c.Bads, c.Justice, c.Constraints, c.Fairness = []int{l}, [][]int{{l, 0}}, nil, nil
			cuts(t, c, bad(0), nothingOf(c, api.Circuit{Bads: []int{l}}))
			cuts(t, c, justice(0), nothingOf(c, api.Circuit{Justice: [][]int{{l, 0}}}))
			c.Constraints, c.Fairness = []int{1, l}, []int{l}
			cuts(t, c, bad(0), nothingOf(c, api.Circuit{Bads: []int{l}, Constraints: []int{1, l}}))
			cuts(t, c, justice(0), nothingOf(c, api.Circuit{Justice: [][]int{{l, 0}}, Constraints: []int{1, l}, Fairness: []int{l}}))
		}
	}
	c := example()
	c.Bads = []int{1, 6}
	cuts(t, c, bad(0), nothingOf(c, api.Circuit{Bads: []int{1}}))
}

// 10.2: properties that hang on an input alone, a gate of constants alone, and a latch that stays as it is.
func TestCutsOfLittle(t *testing.T) {
	c := api.Circuit{Max: 9, Inputs: []int{4, 8}, Latches: []api.Latch{{Lit: 12, Next: 12, Reset: 1}}, Bads: []int{9, 18, 13}, Ands: []api.And{{Out: 18, Left: 1, Right: 0}}}
	cuts(t, c, bad(0), api.Cut{C: api.Circuit{Max: 1, Inputs: []int{2}, Bads: []int{3}}, Lits: []int{0, -1, -1, -1, 2, -1, -1, -1, -1, -1}, Inputs: []int{1}})
	cuts(t, c, bad(1), api.Cut{C: api.Circuit{Max: 1, Bads: []int{2}, Ands: []api.And{{Out: 2, Left: 1, Right: 0}}}, Lits: []int{0, -1, -1, -1, -1, -1, -1, -1, -1, 2}})
	cuts(t, c, bad(2), api.Cut{C: api.Circuit{Max: 1, Latches: []api.Latch{{Lit: 2, Next: 2, Reset: 1}}, Bads: []int{3}}, Lits: []int{0, -1, -1, -1, -1, -1, 2, -1, -1, -1}, Latches: []int{0}})
}

// 10.2: all circuits of two gates over an input and a latch, in both orders.
func TestCutsOfTwoGates(t *testing.T) {
	for _, c := range samples.TwoGates() {
		c.Constraints, c.Justice, c.Fairness = []int{1}, [][]int{{}, {8}}, []int{0}
		for range 2 {
			for _, p := range propsOf(c) {
				asWords(t, some("Of"), c, given{p: p})
			}
			slices.Reverse(c.Ands)
		}
	}
}

// sparse is a circuit by chance, of which constraints, or fairness, are often left away, so that more cuts lack something.
func sparse(r *rand.Rand) api.Circuit {
	c := samples.Circuit(r.Intn)
	c.Symbols = nil
	if r.Intn(3) > 0 {
		c.Constraints = nil
	}
	if r.Intn(2) > 0 {
		c.Fairness = nil
	}
	return c
}

// 10.2: circuits by chance, each property; some cuts have all, some nothing, most something in between.
func TestCutsByChance(t *testing.T) {
	r := rand.New(rand.NewSource(103))
	all, part, nothing := 0, 0, 0
	for range 3000 {
		c := sparse(r)
		for _, p := range propsOf(c) {
			asWords(t, some("Of"), c, given{p: p})
			switch cutBy(t, c, p).C.Max {
			case 0:
				nothing++
			case len(c.Inputs) + len(c.Latches) + len(c.Ands):
				all++
			default:
				part++
			}
		}
	}
	if min(all, part, nothing) < 300 {
		t.Errorf("%d cuts have all, %d a part, %d nothing", all, part, nothing)
	}
}

// 10.2: as many gates as there may be, and as many bads; the gates are numbered by their list, in which each one stands ahead of those that it uses, or behind them.
func TestCutsOfMostGates(t *testing.T) {
	c := chain()
	c.Bads = slices.Repeat([]int{2 * api.MaxVar}, api.MaxItems)
	c.Bads[api.MaxItems-1] = 7
	x := cutBy(t, c, bad(api.MaxItems-1))
	if want := (api.Circuit{Max: 3, Inputs: []int{2}, Bads: []int{5}, Ands: []api.And{{Out: 4, Left: 7, Right: 6}, {Out: 6, Left: 3, Right: 2}}}); !shape.Same(x.C, want) {
		t.Errorf("%+v, want %+v", x.C, want)
	}
	want := api.Circuit{Max: api.MaxVar, Inputs: []int{2}, Bads: []int{4}}
	lits := []int{0, 2}
	for v := 2; v <= api.MaxVar; v++ {
		want.Ands = append(want.Ands, api.And{Out: 2 * v, Left: 2*v + 3, Right: 2*v + 2})
		lits = append(lits, 2*(api.MaxVar+2-v))
	}
	want.Ands[api.MaxVar-2] = api.And{Out: 2 * api.MaxVar, Left: 3, Right: 2}
	cuts(t, c, bad(0), api.Cut{C: want, Lits: lits, Inputs: []int{0}})
	cuts(t, c, bad(api.MaxItems-2), api.Cut{C: want, Lits: lits, Inputs: []int{0}})
	slices.Reverse(c.Ands)
	want = shape.Copy(c)
	want.Bads = []int{2 * api.MaxVar}
	cuts(t, c, bad(0), allOf(want))
}

// 10.2: as many latches, inputs, constraints, justice and fairness literals as there may be.
func TestCutsOfMost(t *testing.T) {
	c := ring()
	c.Justice = append(make([][]int, api.MaxItems-1), slices.Repeat([]int{3}, api.MaxItems))
	c.Constraints = slices.Repeat([]int{2 * api.MaxVar}, api.MaxItems)
	c.Fairness = slices.Repeat([]int{2*api.MaxVar + 1}, api.MaxItems)
	want := shape.Copy(c)
	want.Justice = c.Justice[api.MaxItems-1:]
	cuts(t, c, justice(api.MaxItems-1), allOf(want))
	want.Justice = c.Justice[:1]
	cuts(t, c, justice(api.MaxItems-2), allOf(want))
	c = api.Circuit{Max: api.MaxVar, Bads: []int{2}}
	for v := api.MaxVar; v > 0; v-- {
		c.Inputs = append(c.Inputs, 2*v)
	}
	one := nothingOf(c, api.Circuit{Max: 1, Inputs: []int{2}, Bads: []int{2}})
	one.Lits[1], one.Inputs = 2, []int{api.MaxVar - 1}
	cuts(t, c, bad(0), one)
}

// 10.2: what a cut has not changes nothing of it: outputs, symbols, comments, other properties, of a bad fairness.
func TestWhatACutHasNot(t *testing.T) {
	r := rand.New(rand.NewSource(104))
	for range 1000 {
		c := sparse(r)
		for _, p := range propsOf(c) {
			bare := api.Circuit{Max: c.Max, Inputs: c.Inputs, Latches: c.Latches, Constraints: c.Constraints, Ands: c.Ands}
			at := p
			at.At = 0
			if p.Kind == 'b' {
				bare.Bads = c.Bads[p.At : p.At+1]
			} else {
				bare.Justice, bare.Fairness = c.Justice[p.At:p.At+1], c.Fairness
			}
			cuts(t, bare, at, cutBy(t, c, p))
		}
	}
}

// 10.2: how many latches two properties share: the chapter's example, each held against itself, bads against justice.
func TestAlikeByExample(t *testing.T) {
	c := example()
	c.Bads, c.Justice = append(c.Bads, 10, 1), [][]int{{}, {6}}
	alike(t, c, bad(0), bad(1), 0, 2)
	alike(t, c, bad(1), bad(2), 1, 1)
	alike(t, c, bad(0), bad(0), 1, 1)
	alike(t, c, bad(3), bad(3), 0, 0)
	alike(t, c, bad(3), bad(2), 0, 1)
	alike(t, c, bad(3), justice(0), 0, 2)
	alike(t, c, bad(1), justice(1), 1, 2)
	alike(t, c, justice(1), justice(0), 2, 2)
	c.Constraints = []int{9}
	alike(t, c, bad(0), bad(1), 1, 2)
	alike(t, c, bad(3), bad(3), 1, 1)
	// Two that share one of three.
	c = api.Circuit{Max: 3, Latches: []api.Latch{{Lit: 6, Next: 6}, {Lit: 2, Next: 6}, {Lit: 4, Next: 7}}, Bads: []int{2, 5}}
	alike(t, c, bad(0), bad(1), 1, 3)
	most := ring()
	most.Bads = []int{0, 2, 4}
	alike(t, most, bad(1), bad(2), api.MaxVar, api.MaxVar)
	alike(t, most, bad(0), bad(2), 0, api.MaxVar)
}

// 10.2: circuits by chance, all pairs of properties.
func TestAlikeByChance(t *testing.T) {
	r := rand.New(rand.NewSource(105))
	seen := map[[2]int]int{}
	for range 1500 {
		c := sparse(r)
		for _, p := range propsOf(c) {
			for _, q := range propsOf(c) {
				both, either := alikeOf(c, p, q)
				alike(t, c, p, q, both, either)
				seen[[2]int{both, either}]++
			}
		}
	}
	for either := range 4 {
		for both := range either + 1 {
			if seen[[2]int{both, either}] < 5 {
				t.Errorf("%d of %d came but %d times", both, either, seen[[2]int{both, either}])
			}
		}
	}
}
