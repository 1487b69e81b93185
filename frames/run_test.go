package frames_test

import (
	"math/rand"
	"slices"
	"testing"

	"trestle/api"
	"trestle/frames"
	"trestle/samples"
)

// 16.3: the chapter's example, and more of its steps, and fewer.
func TestRunByExample(t *testing.T) {
	all := []api.Clause{{-1}, {-2}, {-3, -2}, {3, 2}, {-4, -3}, {4, 3}}
	for steps := 1; steps <= 3; steps++ {
		runs(t, turning(), steps, api.Cnf{Vars: 1 + steps, Clauses: all[:2*steps]})
	}
}

// 16.3: circuits of nothing at all, of variables that nothing defines, and of inputs alone have the clause of what is false alone, however many steps there are.
func TestRunOfBareCircuits(t *testing.T) {
	for _, steps := range []int{1, 2, 3, 511, 512} {
		for most := range 5 {
			only := api.Cnf{Vars: 1 + steps*most, Clauses: []api.Clause{{-1}}}
			runs(t, api.Circuit{Max: most}, steps, only)
			if most > 1 {
				runs(t, api.Circuit{Max: most, Inputs: []int{4, 2}, Bads: []int{2, 5}}, steps, only)
			}
		}
	}
}

// 16.3: two steps of a circuit of all, clause by clause: the resets stand ahead of the first step, what leads to a step ahead of that.
func TestRunByHand(t *testing.T) {
	want := api.Cnf{Vars: 21, Clauses: []api.Clause{
		{-1},
		{5}, {-3},
		{-8, -10}, {-8, 2}, {8, 10, -2}, {-11, 10}, {-11, 10}, {11, -10, -10}, {-10, 5}, {-10, -2}, {10, -5, 2}, {-7, -9}, {-7, -3}, {7, 9, 3}, {-7}, {-1},
		{-15, 8}, {15, -8}, {-13, 9}, {13, -9}, {-16, -6}, {16, 6},
		{-18, -20}, {-18, 12}, {18, 20, -12}, {-21, 20}, {-21, 20}, {21, -20, -20}, {-20, 15}, {-20, -12}, {20, -15, 12}, {-17, -19}, {-17, -13}, {17, 19, 13}, {-17}, {-1},
	}}
	runs(t, stepping(), 2, want)
	runs(t, stepping(), 1, api.Cnf{Vars: 11, Clauses: want.Clauses[:17]})
}

// together is the formula of so many steps, put together from what First, Step and Next tell.
func together(t *testing.T, c api.Circuit, steps int) api.Cnf {
	t.Helper()
	told := func(l []api.Clause, e api.Errno) []api.Clause {
		if e != api.OK {
			t.Fatalf("%d steps of %s: %v", steps, brief(c), e)
		}
		return l
	}
	no, e := frames.Lit(c, 1, 0)
	if e != api.OK {
		t.Fatalf("%s: %v", brief(c), e)
	}
	all := slices.Concat([]api.Clause{{no}}, told(frames.First(c)), told(frames.Step(c, 0)))
	for step := 1; step < steps; step++ {
		all = slices.Concat(all, told(frames.Next(c, step-1)), told(frames.Step(c, step)))
	}
	vars, e := frames.Vars(c, steps)
	if e != api.OK {
		t.Fatalf("%s: %v", brief(c), e)
	}
	return api.Cnf{Vars: vars, Clauses: all}
}

// 16.3: Run is put together from First, Step and Next.
func TestRunIsPutTogether(t *testing.T) {
	r := rand.New(rand.NewSource(189))
	for range 2000 {
		c, steps := samples.Circuit(r.Intn), 1+r.Intn(6)
		runs(t, c, steps, together(t, c, steps))
	}
	for _, c := range bare() {
		for _, steps := range []int{1, 2, api.MaxFrames} {
			runs(t, c, steps, together(t, c, steps))
		}
	}
}

// 16.3: all circuits of two variables, all of two gates, and circuits by chance, over a few steps; and some over many.
func TestRunByWords(t *testing.T) {
	r := rand.New(rand.NewSource(190))
	for _, c := range samples.TwoVariables() {
		asWords(t, some("Run"), c, given{steps: 1 + r.Intn(4)})
	}
	for _, c := range samples.TwoGates() {
		asWords(t, some("Run"), c, given{steps: 1 + r.Intn(4)})
	}
	for range 2000 {
		asWords(t, some("Run"), samples.Circuit(r.Intn), given{steps: 1 + r.Intn(8)})
	}
	for range 50 {
		asWords(t, some("Run"), samples.Circuit(r.Intn), given{steps: 1 + r.Intn(api.MaxFrames)})
	}
}
