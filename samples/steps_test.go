package samples_test

import (
	"math/rand"
	"slices"
	"testing"

	"trestle/api"
	"trestle/samples"
	"trestle/sim"
)

// Truths are told as a text of 0 and 1, traces as texts of these.
func TestTold(t *testing.T) {
	if !slices.Equal(samples.Bits("0110"), []bool{false, true, true, false}) || len(samples.Bits("")) > 0 {
		t.Errorf("%v", samples.Bits("0110"))
	}
	tr := samples.Told(1, "10", "0", "1")
	if !samples.SameTrace(tr, api.Trace{Init: []bool{true, false}, Inputs: [][]bool{{false}, {true}}, Loop: 1}) {
		t.Errorf("%+v", tr)
	}
}

// What is told of a step is what layer 7's calls tell, one by one; a trace that began so may begin.
func TestSteps(t *testing.T) {
	r := rand.New(rand.NewSource(7))
	starts := 0
	for range 500 {
		c := samples.Circuit(r.Intn)
		tr := samples.Trace(c, 1, r.Intn)
		state, row := tr.Init, tr.Inputs[0]
		s, e := samples.StepOf(c, state, row)
		values, _ := sim.Values(c, state, row)
		next, _ := sim.Next(c, state, row)
		holds, _ := sim.Holds(c, state, row)
		is, _ := sim.Starts(c, state)
		if e != api.OK || !slices.Equal(s.Values, values) || !slices.Equal(s.Next, next) || s.Holds != holds || s.Starts != is {
			t.Fatalf("%+v, %+v: %+v, %v", c, tr, s, e)
		}
		for i, l := range c.Latches {
			if samples.Value(values, l.Next) != next[i] || samples.Value(values, l.Lit+1) == state[i] {
				t.Fatalf("%+v, %+v: the latch %d", c, tr, i)
			}
		}
		if is {
			starts++
		}
		was := slices.Clone(tr.Init)
		began := samples.Began(c, tr)
		if is, _ := sim.Starts(c, began.Init); !is || !slices.Equal(tr.Init, was) || s.Starts && !slices.Equal(began.Init, was) {
			t.Fatalf("%+v, %+v: %+v", c, tr, began)
		}
	}
	if starts < 100 || starts > 400 {
		t.Errorf("%d of 500 may begin", starts)
	}
	for _, f := range samples.Faults() {
		if _, e := samples.StepOf(f.Circuit(), samples.Bits("000"), samples.Bits("00")); e != f.Want {
			t.Errorf("%s: %v", f.Name, e)
		}
	}
}

// graph is all steps of a right circuit.
func graph(t *testing.T, c api.Circuit) samples.Graph {
	t.Helper()
	g, e := samples.GraphOf(c)
	if e != api.OK {
		t.Fatalf("%+v: %v", c, e)
	}
	return g
}

// reached holds the depths at which a literal is reached against what is wanted, told as a text of 0 and 1.
func reached(t *testing.T, c api.Circuit, l int, want string) {
	t.Helper()
	if got := graph(t, c).Depths(l, len(want)); !slices.Equal(got, samples.Bits(want)) {
		t.Errorf("%+v: %d is reached at %v, want %s", c, l, got, want)
	}
}

// broken holds whether a lasso breaks some literals against what is wanted.
func broken(t *testing.T, c api.Circuit, want bool, must ...int) {
	t.Helper()
	if graph(t, c).Broken(must) != want {
		t.Errorf("%+v: %v is broken: %v", c, must, !want)
	}
}

// The examples of the document, and constraints, by which no step may hold.
func TestGraph(t *testing.T) {
	turns := api.Circuit{Max: 1, Latches: []api.Latch{{Lit: 2, Next: 3}}}
	reached(t, turns, 2, "0101")
	reached(t, turns, 3, "1010")
	reached(t, turns, 0, "000")
	reached(t, turns, 1, "111")
	broken(t, turns, true, 2)
	broken(t, turns, true, 2, 3)
	broken(t, turns, false, 0)
	broken(t, turns, true)
	turns.Latches[0].Reset = 1
	reached(t, turns, 2, "1010")
	stays := api.Circuit{Max: 1, Latches: []api.Latch{{Lit: 2, Next: 2}}}
	reached(t, stays, 2, "000")
	broken(t, stays, false, 2)
	stays.Latches[0].Reset = 2
	reached(t, stays, 2, "111")
	broken(t, stays, true, 2)
	broken(t, stays, true, 3)
	broken(t, stays, false, 2, 3)
	follows := api.Circuit{Max: 2, Inputs: []int{2}, Latches: []api.Latch{{Lit: 4, Next: 2}}}
	reached(t, follows, 4, "011")
	broken(t, follows, true, 4, 5)
	if g := graph(t, follows); len(g.Edges) != 4 || len(g.Begins) != 2 {
		t.Errorf("%+v", g)
	}
	follows.Constraints = []int{3}
	reached(t, follows, 4, "000")
	broken(t, follows, false, 4)
	broken(t, follows, true, 5, 3)
	follows.Constraints = []int{0}
	reached(t, follows, 1, "00")
	broken(t, follows, false)
	for _, f := range samples.Faults() {
		if g, e := samples.GraphOf(f.Circuit()); e != f.Want || len(g.Begins)+len(g.Edges) > 0 {
			t.Errorf("%s: %+v, %v", f.Name, g, e)
		}
	}
}
