package samples_test

import (
	"math/rand"
	"slices"
	"testing"

	"trestle/api"
	"trestle/samples"
	"trestle/sim"
)

// A run begins as it may, each of its steps holds, and it ends early but where no step holds; all of this is told by layer 7's Run.
func TestRuns(t *testing.T) {
	r := rand.New(rand.NewSource(9))
	whole, early := 0, 0
	for range 2000 {
		c := samples.Circuit(r.Intn)
		tr := samples.Run(c, 5, r.Intn)
		if is, e := sim.Starts(c, tr.Init); !is || e != api.OK || len(tr.Inputs) > 5 || tr.Loop != -1 {
			t.Fatalf("%+v: %+v", c, tr)
		}
		state := tr.Init
		for i, row := range tr.Inputs {
			s, e := samples.StepOf(c, state, row)
			if e != api.OK || !s.Holds {
				t.Fatalf("%+v: %+v: the step %d", c, tr, i)
			}
			state = s.Next
		}
		if len(tr.Inputs) == 5 {
			whole++
			continue
		}
		early++
		for _, row := range samples.AllLists(len(c.Inputs), false, true) {
			if s, _ := samples.StepOf(c, state, row); s.Holds {
				t.Fatalf("%+v: %+v goes on by %v", c, tr, row)
			}
		}
	}
	if min(whole, early) < 500 {
		t.Errorf("%d whole ones, %d that ended early", whole, early)
	}
}

// The steps to which a trace leads back, by hand.
func TestHomes(t *testing.T) {
	turns := api.Circuit{Max: 1, Latches: []api.Latch{{Lit: 2, Next: 3}}}
	follows := api.Circuit{Max: 2, Inputs: []int{2}, Latches: []api.Latch{{Lit: 4, Next: 2}}}
	for _, x := range []struct {
		c    api.Circuit
		t    api.Trace
		want []int
	}{
		{turns, samples.Told(-1, "0", ""), nil}, {turns, samples.Told(-1, "0", "", ""), []int{0}}, {turns, samples.Told(-1, "1", "", "", ""), []int{1}}, {turns, samples.Told(3, "1", "", "", "", ""), []int{0, 2}},
		{follows, samples.Told(-1, "0", "1"), nil}, {follows, samples.Told(-1, "0", "0"), []int{0}}, {follows, samples.Told(-1, "1", "1", "0", "1", "1"), []int{0, 1, 3}}, {follows, samples.Told(-1, "0"), nil},
		{api.Circuit{}, samples.Told(-1, "", "", "", ""), []int{0, 1, 2}},
	} {
		if got := samples.Homes(x.c, x.t); !slices.Equal(got, x.want) {
			t.Errorf("%+v, %+v: %v, want %v", x.c, x.t, got, x.want)
		}
	}
}
