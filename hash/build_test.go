package hash_test

import (
	"math/rand"
	"slices"
	"testing"

	"trestle/api"
	"trestle/samples"
	"trestle/shape"
)

// 9.3: the second example of the chapter.
func TestBuildByExample(t *testing.T) {
	c := api.Circuit{Max: 5, Inputs: []int{2, 4}, Ands: []api.And{{Out: 6, Left: 2, Right: 4}, {Out: 8, Left: 4, Right: 2}, {Out: 10, Left: 6, Right: 9}}}
	builds(t, c, api.Circuit{Max: 3, Inputs: []int{2, 4}, Ands: []api.And{{Out: 6, Left: 4, Right: 2}}}, []int{0, 2, 4, 6, 6, 0})
}

// 9.3: each list of a circuit, a latch with each reset, variables that nothing defines, gates that stand ahead of what they use, symbols and comments.
func TestBuildOfAllLists(t *testing.T) {
	want := samples.Right()
	want.Max = 6
	want.Inputs = []int{2, 4}
	want.Latches = []api.Latch{{Lit: 6, Next: 1, Reset: 6}, {Lit: 8, Next: 2, Reset: 1}, {Lit: 10, Next: 9, Reset: 0}}
	want.Outputs, want.Bads, want.Constraints = []int{0, 1, 5}, []int{12, 12}, []int{0, 3}
	want.Justice, want.Fairness = [][]int{{}, {6, 7}, {0}}, []int{11, 12}
	want.Ands = []api.And{{Out: 12, Left: 6, Right: 5}}
	builds(t, samples.Right(), want, []int{0, 4, 10, 6, 2, 0, 0, 8, 0, 12, 0, 12, 0})
}

// 9.3: circuits of nothing, of the least and the greatest Max, and of one thing.
func TestBuildOfLittle(t *testing.T) {
	for _, most := range []int{0, 1, 7, api.MaxVar} {
		builds(t, api.Circuit{Max: most}, api.Circuit{}, make([]int, most+1))
		full := api.Circuit{Max: most, Outputs: []int{0, 1}, Bads: []int{1}, Constraints: []int{0}, Justice: [][]int{nil, {0, 1}}, Fairness: []int{1}, Comments: []string{""}}
		want := shape.Copy(full)
		want.Max = 0
		builds(t, full, want, make([]int, most+1))
	}
	builds(t, api.Circuit{Max: 3, Inputs: []int{6}}, api.Circuit{Max: 1, Inputs: []int{2}}, []int{0, 0, 0, 2})
	for reset, want := range map[int]int{0: 0, 1: 1, 4: 2} {
		builds(t, api.Circuit{Max: 3, Latches: []api.Latch{{Lit: 4, Next: 5, Reset: reset}}}, api.Circuit{Max: 1, Latches: []api.Latch{{Lit: 2, Next: 3, Reset: want}}}, []int{0, 0, 2, 0})
	}
	for x := range 4 {
		builds(t, api.Circuit{Max: 3, Bads: []int{4, 5}, Ands: []api.And{{Out: 4, Left: x / 2, Right: x % 2}}}, api.Circuit{Bads: []int{x / 3, 1 - x/3}}, []int{0, 0, x / 3, 0})
	}
}

// 9.3: a gate that becomes a literal of something else, negated too, is that wherever it stands.
func TestBuildOfNegatedLiterals(t *testing.T) {
	// 6 is: not 4; 8: not 6, which is 4; 10: both, which is 0; 12: not 10, and 7; 14: 2, and not 12.
	c := api.Circuit{
		Max: 7, Inputs: []int{2}, Latches: []api.Latch{{Lit: 4, Next: 7, Reset: 4}}, Outputs: []int{6, 7, 8, 9, 10, 11, 12, 13, 14, 15},
		Bads: []int{7}, Constraints: []int{6}, Justice: [][]int{{13, 8}}, Fairness: []int{9},
		Ands: []api.And{{Out: 14, Left: 13, Right: 2}, {Out: 6, Left: 1, Right: 5}, {Out: 8, Left: 7, Right: 7}, {Out: 10, Left: 8, Right: 6}, {Out: 12, Left: 7, Right: 11}},
	}
	builds(t, c, api.Circuit{
		Max: 3, Inputs: []int{2}, Latches: []api.Latch{{Lit: 4, Next: 4, Reset: 4}}, Outputs: []int{5, 4, 4, 5, 0, 1, 4, 5, 6, 7},
		Bads: []int{4}, Constraints: []int{5}, Justice: [][]int{{5, 4}}, Fairness: []int{5},
		Ands: []api.And{{Out: 6, Left: 5, Right: 2}},
	}, []int{0, 2, 4, 5, 4, 0, 4, 6})
}

// 9.3: gates are made in layer 3's Order, not in that of the list; those that are like by what their literals have become are one.
func TestBuildOfLikeGates(t *testing.T) {
	// 8 is: 4 and not 2; 10 the same, by 12, which is 2; 14: not 8, and not 2; 16 the same, by 10; 6 uses both.
	c := api.Circuit{
		Max: 8, Inputs: []int{4, 2}, Outputs: []int{6, 8, 10, 12, 14, 16},
		Ands: []api.And{
			{Out: 6, Left: 14, Right: 17}, {Out: 16, Left: 11, Right: 3}, {Out: 10, Left: 13, Right: 4}, {Out: 14, Left: 13, Right: 9}, {Out: 12, Left: 2, Right: 2}, {Out: 8, Left: 4, Right: 3},
		},
	}
	builds(t, c, api.Circuit{
		Max: 4, Inputs: []int{2, 4}, Outputs: []int{0, 6, 6, 4, 8, 8}, Ands: []api.And{{Out: 6, Left: 5, Right: 2}, {Out: 8, Left: 7, Right: 5}},
	}, []int{0, 4, 2, 0, 6, 6, 4, 8, 8})
	// Two that are unlike, which come by the order of the list, and two that can't.
	c = api.Circuit{Max: 6, Inputs: []int{2, 4}, Ands: []api.And{{Out: 12, Left: 10, Right: 2}, {Out: 10, Left: 4, Right: 2}, {Out: 8, Left: 2, Right: 5}, {Out: 6, Left: 12, Right: 4}}}
	builds(t, c, api.Circuit{
		Max: 6, Inputs: []int{2, 4}, Ands: []api.And{{Out: 6, Left: 4, Right: 2}, {Out: 8, Left: 6, Right: 2}, {Out: 10, Left: 5, Right: 2}, {Out: 12, Left: 8, Right: 4}},
	}, []int{0, 2, 4, 12, 10, 6, 8})
}

// 9.3: all circuits of two gates over an input and a latch, in both orders.
func TestBuildOfTwoGates(t *testing.T) {
	for _, c := range samples.TwoGates() {
		asWords(t, c)
		slices.Reverse(c.Ands)
		asWords(t, c)
	}
}

// likened is a circuit by chance of which some gates are made like, or almost like, another one.
func likened(r *rand.Rand) api.Circuit {
	c := samples.Circuit(r.Intn)
	order, _ := shape.Order(c)
	for k := 1; k < len(order); k++ {
		if r.Intn(3) > 0 {
			continue
		}
		like := c.Ands[order[r.Intn(k)]]
		g := &c.Ands[order[k]]
		g.Left, g.Right = like.Right, like.Left
		if r.Intn(4) == 0 {
			g.Left = not(g.Left)
		}
	}
	return c
}

// 9.3: circuits by chance, with gates that are like, and that are trivial.
func TestBuildByChance(t *testing.T) {
	r := rand.New(rand.NewSource(93))
	like, trivial := 0, 0
	for range 5000 {
		c := likened(r)
		asWords(t, c)
		_, m := built(t, c)
		seen := map[int]int{}
		for _, g := range c.Ands {
			if l := m[g.Out/2]; l < 2*(1+len(c.Inputs)+len(c.Latches)) {
				trivial++
			} else if seen[l]++; seen[l] > 1 {
				like++
			}
		}
	}
	if min(like, trivial) < 1000 {
		t.Errorf("%d like gates, %d trivial ones", like, trivial)
	}
}

// ladder is a circuit of two inputs and gates up to the greatest variable, no two of them like, each of which uses the one behind it in the list.
func ladder() api.Circuit {
	c := api.Circuit{Max: api.MaxVar, Inputs: []int{2, 4}, Outputs: []int{2 * api.MaxVar}}
	for v := 3; v <= api.MaxVar; v++ {
		c.Ands = append(c.Ands, api.And{Out: 2 * v, Left: 2 + 2*(v%2), Right: 2*v - 2})
	}
	c.Ands[0] = api.And{Out: 6, Left: 2, Right: 5}
	slices.Reverse(c.Ands)
	return c
}

// 9.3: as many gates as there may be, all made; or each like another one, or trivial.
func TestBuildOfMostGates(t *testing.T) {
	c := ladder()
	n, m := built(t, c)
	tight(t, n)
	if n.Max != api.MaxVar || len(n.Ands) != api.MaxVar-2 || n.Outputs[0] != 2*api.MaxVar {
		t.Errorf("Max %d, %d gates, %v", n.Max, len(n.Ands), n.Outputs)
	}
	for v, l := range m {
		if l != 2*v {
			t.Fatalf("the variable %d has become %d", v, l)
		}
	}
	for i, g := range c.Ands {
		c.Ands[i].Left, c.Ands[i].Right = 2+2*(i%2), 4-2*(i%2)
		m[g.Out/2] = 6
	}
	builds(t, c, api.Circuit{Max: 3, Inputs: []int{2, 4}, Outputs: []int{6}, Ands: []api.And{{Out: 6, Left: 4, Right: 2}}}, m)
	// Gates alone: each one is the negation of the one ahead of it.
	c = api.Circuit{Max: api.MaxVar, Bads: []int{2 * api.MaxVar}}
	want := []int{0}
	for v := 1; v <= api.MaxItems; v++ {
		c.Ands = append(c.Ands, api.And{Out: 2 * v, Left: 2*v - 1, Right: 1})
		want = append(want, v%2)
	}
	builds(t, c, api.Circuit{Bads: []int{api.MaxVar % 2}}, want)
}

// 9.3: as many inputs, or latches, as there may be, numbered by their lists.
func TestBuildOfMostThings(t *testing.T) {
	var c, want api.Circuit
	m := []int{0}
	for v := api.MaxVar; v > 0; v-- {
		c.Inputs = append(c.Inputs, 2*v)
		want.Inputs = append(want.Inputs, 2*(api.MaxVar-v+1))
		m = append(m, 2*v)
	}
	c.Max, want.Max = api.MaxVar, api.MaxVar
	builds(t, c, want, m)
	c.Latches, want.Latches = nil, nil
	for i, l := range c.Inputs {
		c.Latches = append(c.Latches, api.Latch{Lit: l, Next: not(l), Reset: l})
		k := want.Inputs[i]
		want.Latches = append(want.Latches, api.Latch{Lit: k, Next: not(k), Reset: k})
	}
	c.Inputs, want.Inputs = nil, nil
	builds(t, c, want, m)
}

// R1, R2, R5: what layer 3 refuses, one wrong thing in a circuit or two.
func TestBuildOfWrongCircuits(t *testing.T) {
	all := samples.Faults()
	for i, f := range all {
		refuse(t, f.Name, f.Circuit(), f.Want)
		for _, g := range all[i+1:] {
			c := f.Circuit()
			g.Do(&c)
			refuse(t, f.Name+", "+g.Name, c, f.Want)
		}
	}
	refuse(t, "Max too great", api.Circuit{Max: api.MaxVar + 1}, api.ErrRange)
	refuse(t, "too many gates", api.Circuit{Max: api.MaxVar, Ands: make([]api.And, api.MaxItems+1)}, api.ErrLong)
}

// P1, R2: circuits by chance with any numbers in them: Build refuses just what layer 3 refuses.
func TestAnyNumbers(t *testing.T) {
	r := rand.New(rand.NewSource(94))
	seen := map[api.Errno]int{}
	for range 20000 {
		c := samples.AnyNumbers(r.Intn)
		_, want := shape.Check(c)
		if seen[want]++; want == api.OK {
			asWords(t, c)
			continue
		}
		refuse(t, c, c, want)
	}
	for _, e := range samples.CodesOfNumbers() {
		if seen[e] < 10 {
			t.Errorf("%v came but %d times", e, seen[e])
		}
	}
}
