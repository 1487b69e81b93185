package shape_test

import (
	"math/rand"
	"slices"
	"testing"

	"trestle/api"
	"trestle/samples"
	"trestle/shape"
)

// renumbered is Renumber of a circuit that is right.
func renumbered(t *testing.T, c api.Circuit) (api.Circuit, []int) {
	t.Helper()
	n, m, e := shape.Renumber(c)
	if e != api.OK {
		t.Fatalf("%+v: %v", c, e)
	}
	return n, m
}

// 3.3: the chapter's examples.
func TestRenumberByExample(t *testing.T) {
	c := api.Circuit{Max: 3, Inputs: []int{2, 4}, Ands: []api.And{{Out: 6, Left: 2, Right: 4}}}
	n, m := renumbered(t, c)
	sameCircuit(t, "1", n, api.Circuit{Max: 3, Inputs: []int{2, 4}, Ands: []api.And{{Out: 6, Left: 4, Right: 2}}})
	if !slices.Equal(m, []int{0, 2, 4, 6}) {
		t.Error(m)
	}
	c = api.Circuit{Max: 9, Inputs: []int{8}, Latches: []api.Latch{{Lit: 4}}, Ands: []api.And{{Out: 6, Left: 9, Right: 4}}}
	n, m = renumbered(t, c)
	sameCircuit(t, "3", n, api.Circuit{Max: 3, Inputs: []int{2}, Latches: []api.Latch{{Lit: 4}}, Ands: []api.And{{Out: 6, Left: 4, Right: 3}}})
	if !slices.Equal(m, []int{0, 0, 4, 6, 2, 0, 0, 0, 0, 0}) {
		t.Error(m)
	}
}

// 3.3: each list of a circuit, a latch with each reset, symbols and comments.
func TestRenumberOfAllLists(t *testing.T) {
	want := samples.Right()
	want.Max = 9
	want.Inputs = []int{2, 4}
	want.Latches = []api.Latch{{Lit: 6, Next: 17, Reset: 6}, {Lit: 8, Next: 2, Reset: 1}, {Lit: 10, Next: 9, Reset: 0}}
	want.Outputs, want.Bads, want.Constraints = []int{16, 1, 5}, []int{12, 12}, []int{0, 3}
	want.Justice, want.Fairness = [][]int{{}, {6, 7}, {18}}, []int{11, 14}
	want.Ands = []api.And{{Out: 12, Left: 6, Right: 5}, {Out: 14, Left: 12, Right: 12}, {Out: 16, Left: 14, Right: 13}, {Out: 18, Left: 16, Right: 0}}
	n, m := renumbered(t, samples.Right())
	sameCircuit(t, "right", n, want)
	if !slices.Equal(m, []int{0, 4, 10, 6, 2, 0, 0, 8, 0, 12, 16, 14, 18}) {
		t.Error(m)
	}
}

// 3.3: circuits with nothing in them, of the least and the greatest Max.
func TestRenumberOfEmptyCircuits(t *testing.T) {
	for _, most := range []int{0, 1, api.MaxVar} {
		n, m := renumbered(t, api.Circuit{Max: most, Justice: [][]int{nil, {0, 1}}, Comments: []string{""}})
		sameCircuit(t, "empty", n, api.Circuit{Justice: [][]int{{}, {0, 1}}, Comments: []string{""}})
		if !slices.Equal(m, make([]int, most+1)) {
			t.Errorf("Max %d: a map of %d", most, len(m))
		}
	}
}

// 3.3: a chain of as many gates as there may be, each ahead of what it uses.
func TestRenumberOfManyGates(t *testing.T) {
	const n = api.MaxVar - 1
	c, m := renumbered(t, chain(n, 2))
	for i, g := range c.Ands {
		if g != (api.And{Out: 2*i + 4, Left: 2*i + 3, Right: 2*i + 2}) {
			t.Fatal(i, g)
		}
	}
	if c.Max != api.MaxVar || len(c.Ands) != n || len(m) != api.MaxVar+1 || m[1] != 2 || m[2] != 2*api.MaxVar || m[api.MaxVar] != 4 {
		t.Error(c.Max, len(c.Ands), len(m))
	}
}

// 3.3, 3.5: circuits by chance: what the chapter's words say; it has the binary order, and is the same when it is renumbered again; new literals are unlike.
func TestRenumberByChance(t *testing.T) {
	r := rand.New(rand.NewSource(33))
	for range 5000 {
		c := samples.Circuit(r.Intn)
		n, m := renumbered(t, c)
		want, wantMap := renumberOf(c)
		sameCircuit(t, "renumbered", n, want)
		if !slices.Equal(m, wantMap) {
			t.Fatalf("%+v: %v, want %v", c, m, wantMap)
		}
		if ok, e := shape.IsBinary(n); !ok || e != api.OK {
			t.Fatalf("%+v: IsBinary %v, %v", n, ok, e)
		}
		again, back := renumbered(t, n)
		sameCircuit(t, "renumbered again", again, n)
		for v, l := range back {
			if l != 2*v {
				t.Fatalf("again: the variable %d became %d", v, l)
			}
		}
		told := slices.DeleteFunc(slices.Clone(m), func(l int) bool { return l == 0 })
		slices.Sort(told)
		if len(told) != n.Max || len(slices.Compact(told)) != n.Max {
			t.Fatalf("%v: new literals of %d variables", m, n.Max)
		}
	}
}

// value is that of a literal, by the values of inputs and latches, followed gate by gate.
func value(c api.Circuit, given map[int]int, l int) int {
	v, known := given[l/2]
	if at := slices.IndexFunc(c.Ands, func(g api.And) bool { return g.Out/2 == l/2 }); !known && at >= 0 {
		v = value(c, given, c.Ands[at].Left) & value(c, given, c.Ands[at].Right)
	}
	return v ^ l%2
}

// 3.5: negated literals go with their variables: by the map each literal has the value that it had.
func TestRenumberedValues(t *testing.T) {
	r := rand.New(rand.NewSource(35))
	for range 300 {
		c := samples.Circuit(r.Intn)
		n, m := renumbered(t, c)
		was, is := map[int]int{}, map[int]int{}
		for i, l := range c.Inputs {
			was[l/2] = r.Intn(2)
			is[n.Inputs[i]/2] = was[l/2]
		}
		for i, l := range c.Latches {
			was[l.Lit/2] = r.Intn(2)
			is[n.Latches[i].Lit/2] = was[l.Lit/2]
		}
		for v, l := range m {
			if value(c, was, 2*v) != value(n, is, l) {
				t.Fatalf("%+v: the variable %d, now %d", c, v, l)
			}
		}
		for i, l := range c.Outputs {
			if value(c, was, l) != value(n, is, n.Outputs[i]) {
				t.Fatalf("%+v: the output %d", c, i)
			}
		}
	}
}

// 3.3: what has the binary order, and what has not for one reason each.
func TestIsBinary(t *testing.T) {
	two := func(g api.And) api.Circuit {
		return api.Circuit{Max: 4, Inputs: []int{2}, Latches: []api.Latch{{Lit: 4}}, Ands: []api.And{{Out: 6, Left: 4, Right: 2}, g}}
	}
	for i, x := range []struct {
		c    api.Circuit
		want bool
	}{
		{api.Circuit{}, true}, {api.Circuit{Max: 1}, false}, {api.Circuit{Max: api.MaxVar}, false},
		{api.Circuit{Max: 2, Inputs: []int{2, 4}, Bads: []int{5}}, true}, {api.Circuit{Max: 2, Inputs: []int{4, 2}}, false},
		{api.Circuit{Max: 3, Inputs: []int{2, 4}}, false}, {api.Circuit{Max: 2, Inputs: []int{4}}, false}, {api.Circuit{Max: 3, Inputs: []int{2, 6}}, false},
		{api.Circuit{Max: 2, Inputs: []int{2}, Latches: []api.Latch{{Lit: 4, Reset: 4}}}, true}, {api.Circuit{Max: 2, Inputs: []int{4}, Latches: []api.Latch{{Lit: 2}}}, false},
		{api.Circuit{Max: 2, Latches: []api.Latch{{Lit: 4}, {Lit: 2}}}, false}, {api.Circuit{Max: 3, Inputs: []int{2}, Latches: []api.Latch{{Lit: 6}}}, false},
		{two(api.And{Out: 8, Left: 7, Right: 7}), true}, {two(api.And{Out: 8, Left: 7, Right: 6}), true}, {two(api.And{Out: 8, Left: 6, Right: 7}), false},
		{two(api.And{Out: 8, Left: 2, Right: 4}), false}, {two(api.And{Out: 8, Left: 0, Right: 0}), true}, {two(api.And{Out: 8, Left: 1, Right: 0}), true},
		{two(api.And{Out: 8, Left: 0, Right: 1}), false},
		{api.Circuit{Max: 1, Ands: []api.And{{Out: 2, Left: 0, Right: 0}}}, true}, {api.Circuit{Max: 2, Ands: []api.And{{Out: 4, Left: 0, Right: 0}}}, false},
		{api.Circuit{Max: 2, Ands: []api.And{{Out: 4, Left: 0, Right: 0}, {Out: 2, Left: 0, Right: 0}}}, false},
		{api.Circuit{Max: 2, Ands: []api.And{{Out: 2, Left: 4, Right: 4}, {Out: 4, Left: 0, Right: 0}}}, false},
		{api.Circuit{Max: 2, Ands: []api.And{{Out: 2, Left: 5, Right: 0}, {Out: 4, Left: 0, Right: 0}}}, false},
		{api.Circuit{Max: 2, Inputs: []int{4}, Ands: []api.And{{Out: 2, Left: 1, Right: 1}}}, false},
		{api.Circuit{Max: 3, Inputs: []int{2}, Ands: []api.And{{Out: 4, Left: 2, Right: 2}}}, false},
	} {
		if ok, e := shape.IsBinary(x.c); ok != x.want || e != api.OK {
			t.Errorf("%d: %v, %v, want %v", i, ok, e, x.want)
		}
	}
}

// 3.3: circuits with the binary order of which one number or the order of two gates is changed, where they are right.
func TestIsBinaryByChance(t *testing.T) {
	r := rand.New(rand.NewSource(34))
	seen := map[bool]int{}
	for range 40000 {
		c, _ := renumbered(t, samples.Circuit(r.Intn))
		if all := samples.NumbersOf(&c); r.Intn(3) > 0 {
			*all[r.Intn(len(all))] = r.Intn(2*c.Max + 3)
		} else if n := len(c.Ands); n > 1 {
			i := r.Intn(n - 1)
			c.Ands[i], c.Ands[i+1] = c.Ands[i+1], c.Ands[i]
		}
		if _, e := checkOf(c); e != api.OK {
			continue
		}
		want := isBinaryOf(c)
		if ok, e := shape.IsBinary(c); ok != want || e != api.OK {
			t.Fatalf("%+v: %v, %v, want %v", c, ok, e, want)
		}
		seen[want]++
	}
	if seen[true] < 100 || seen[false] < 100 {
		t.Error(seen)
	}
}
