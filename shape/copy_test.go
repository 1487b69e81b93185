package shape_test

import (
	"math"
	"math/rand"
	"slices"
	"testing"

	"trestle/api"
	"trestle/samples"
	"trestle/shape"
)

// 3.4: copies of circuits, right or not, have the same members.
func TestCopy(t *testing.T) {
	list := []api.Circuit{{}, samples.Right(), {Max: -7, Inputs: []int{-1, 3}, Latches: []api.Latch{{Reset: math.MinInt}}, Justice: [][]int{nil, {}, {9}}}}
	for _, f := range samples.Faults() {
		list = append(list, f.Circuit())
	}
	for _, c := range longs(api.MaxItems + 1) {
		list = append(list, c)
	}
	r := rand.New(rand.NewSource(36))
	for range 200 {
		list = append(list, samples.Circuit(r.Intn))
	}
	for _, c := range list {
		x := shape.Copy(c)
		sameCircuit(t, "a copy", x, c)
		if !shape.Same(x, c) || !shape.Same(c, x) {
			t.Fatal("a copy is not the same")
		}
	}
}

// changes is single changes of the circuit right, each of which makes it another one.
func changes() []func(c *api.Circuit) {
	return []func(c *api.Circuit){
		func(c *api.Circuit) { c.Max++ },
		func(c *api.Circuit) { c.Inputs[1]++ }, func(c *api.Circuit) { c.Inputs = c.Inputs[:1] }, func(c *api.Circuit) { slices.Reverse(c.Inputs) },
		func(c *api.Circuit) { c.Latches[2].Lit++ }, func(c *api.Circuit) { c.Latches[0].Next++ }, func(c *api.Circuit) { c.Latches[1].Reset++ },
		func(c *api.Circuit) { c.Latches = append(c.Latches, api.Latch{}) }, func(c *api.Circuit) { slices.Reverse(c.Latches) },
		func(c *api.Circuit) { c.Outputs[0]++ }, func(c *api.Circuit) { c.Outputs = c.Outputs[1:] },
		func(c *api.Circuit) { c.Bads[1]++ }, func(c *api.Circuit) { c.Bads = append(c.Bads, 18) },
		func(c *api.Circuit) { c.Constraints[1]++ }, func(c *api.Circuit) { c.Constraints = nil },
		func(c *api.Circuit) { c.Justice[2][0]++ }, func(c *api.Circuit) { c.Justice[0] = []int{0} }, func(c *api.Circuit) { c.Justice = c.Justice[1:] },
		func(c *api.Circuit) { c.Justice[1], c.Justice[2] = []int{6}, []int{7, 24} }, func(c *api.Circuit) { slices.Reverse(c.Justice[1]) },
		func(c *api.Circuit) { c.Justice = append(c.Justice, nil) },
		func(c *api.Circuit) { c.Fairness[0]++ }, func(c *api.Circuit) { c.Fairness = append(c.Fairness, 0) },
		func(c *api.Circuit) { c.Ands[3].Out++ }, func(c *api.Circuit) { c.Ands[0].Left++ }, func(c *api.Circuit) { c.Ands[1].Right++ },
		func(c *api.Circuit) { slices.Reverse(c.Ands) }, func(c *api.Circuit) { c.Ands[1].Left, c.Ands[1].Right = c.Ands[1].Right, c.Ands[1].Left },
		func(c *api.Circuit) { c.Symbols[0].Kind++ }, func(c *api.Circuit) { c.Symbols[7].At++ }, func(c *api.Circuit) { c.Symbols[1].Name = "" },
		func(c *api.Circuit) { c.Symbols = c.Symbols[:7] }, func(c *api.Circuit) { slices.Reverse(c.Symbols) },
		func(c *api.Circuit) { c.Comments[0] = " " }, func(c *api.Circuit) { c.Comments = c.Comments[:1] }, func(c *api.Circuit) { slices.Reverse(c.Comments) },
	}
}

// 3.4: circuits that are the same but for one member, its place, or how many there are.
func TestSame(t *testing.T) {
	for i, change := range changes() {
		c := samples.Clone(samples.Right())
		change(&c)
		if shape.Same(c, samples.Right()) || shape.Same(samples.Right(), c) || !shape.Same(c, c) {
			t.Errorf("change %d", i)
		}
		for k, other := range changes()[:i] {
			d := samples.Clone(samples.Right())
			other(&d)
			if shape.Same(c, d) {
				t.Errorf("changes %d and %d", i, k)
			}
		}
	}
	if !shape.Same(samples.Right(), samples.Clone(samples.Right())) {
		t.Error("a clone is not the same")
	}
}

// R3, 3.4: a list without an element may be nil or empty; a list's members do not go over to the next list.
func TestSameOfEmptyLists(t *testing.T) {
	empty := api.Circuit{
		Inputs: []int{}, Latches: []api.Latch{}, Outputs: []int{}, Bads: []int{}, Constraints: []int{}, Justice: [][]int{}, Fairness: []int{},
		Ands: []api.And{}, Symbols: []api.Symbol{}, Comments: []string{},
	}
	if !shape.Same(api.Circuit{}, empty) || !shape.Same(empty, api.Circuit{}) || !shape.Same(shape.Copy(empty), api.Circuit{}) {
		t.Error("nil and empty lists")
	}
	if !shape.Same(api.Circuit{Justice: [][]int{nil, {}}}, api.Circuit{Justice: [][]int{{}, nil}}) {
		t.Error("nil and empty justice")
	}
	ones := []api.Circuit{{Inputs: []int{2}}, {Outputs: []int{2}}, {Bads: []int{2}}, {Constraints: []int{2}}, {Fairness: []int{2}}, {Justice: [][]int{{2}}}, {Justice: [][]int{{}, {2}}}, {Max: 2}, {}}
	for i, a := range ones {
		for k, b := range ones {
			if shape.Same(a, b) != (i == k) {
				t.Errorf("%d and %d", i, k)
			}
		}
	}
}
