package frames_test

import (
	"math"
	"math/rand"
	"slices"
	"testing"

	"trestle/api"
	"trestle/samples"
)

// bare is circuits of a few variables: of none, of latches alone, of inputs alone, of gates alone, of all, and with some that are nothing.
func bare() []api.Circuit {
	return []api.Circuit{
		{}, {Max: 3}, turning(), {Max: 2, Inputs: []int{4, 2}}, {Max: 2, Ands: []api.And{{Out: 4, Left: 3, Right: 2}, {Out: 2, Left: 1, Right: 0}}},
		stepping(), samples.Right(), {Max: 3, Inputs: []int{6}, Latches: []api.Latch{{Lit: 2, Next: 2, Reset: 2}}},
	}
}

// fitting is what goes with a circuit, a step, and as many steps as are told: truths and traces by chance of so many steps as there may be.
func fitting(c api.Circuit, step, steps int, r *rand.Rand) given {
	n := max(1, min(steps, api.MaxFrames))
	return given{lit: 2*c.Max + 1, step: step, steps: steps, model: samples.Truths(1+n*c.Max, r.Intn), tr: samples.Trace(c, n, r.Intn)}
}

// 16.1, 16.2: the steps 0, MaxFrames - 2 and MaxFrames - 1 for each call that takes a step, and those outside; for Next the last one is MaxFrames - 2.
func TestFirstAndLastSteps(t *testing.T) {
	r := rand.New(rand.NewSource(182))
	for _, c := range bare() {
		for _, step := range []int{0, 1, 2, api.MaxFrames / 2, api.MaxFrames - 3, api.MaxFrames - 2} {
			asWords(t, stepwise(), c, fitting(c, step, 1, r))
			for _, x := range stepwise() {
				if got := x.of(c, fitting(c, step, 1, r)); got.e != api.OK {
					t.Fatalf("%s of the step %d of %s: %v", x.name, step, brief(c), got.e)
				}
			}
		}
		last := fitting(c, api.MaxFrames-1, 1, r)
		answers(t, some("Lit"), c, last, answer{n: at(c, last.lit, 511)})
		tells(t, "Step", c, api.MaxFrames-1, stepOf(c, 511)...)
		refuse(t, some("Next"), c, last, api.ErrRange)
		for _, step := range []int{-1, -2, -3, api.MaxFrames, api.MaxFrames + 1, 2 * api.MaxFrames, api.MaxCnf, math.MaxInt - 2, math.MaxInt - 1, math.MaxInt, math.MinInt, math.MinInt + 1} {
			refuse(t, stepwise(), c, fitting(c, step, 1, r), api.ErrRange)
		}
	}
}

// 16.1, 16.3, 16.4: 1 step and MaxFrames steps for each call that takes a number of them, and those outside.
func TestFewestAndMostSteps(t *testing.T) {
	r := rand.New(rand.NewSource(183))
	for _, c := range bare() {
		for _, steps := range []int{1, 2, 3, api.MaxFrames - 1, api.MaxFrames} {
			g := fitting(c, 0, steps, r)
			asWords(t, counting(), c, g)
			g.tr = samples.Run(c, steps, r.Intn)
			asWords(t, counting(), c, g)
			for _, x := range some("Vars", "Run", "Trace") {
				if got := x.of(c, g); got.e != api.OK {
					t.Fatalf("%s of %d steps of %s: %v", x.name, steps, brief(c), got.e)
				}
			}
		}
		for _, steps := range []int{0, -1, -2, api.MaxFrames + 1, api.MaxFrames + 2, 2 * api.MaxFrames, api.MaxCnf, math.MaxInt, math.MaxInt - 1, math.MinInt, math.MinInt + 1} {
			refuse(t, counting(), c, fitting(c, 0, steps, r), api.ErrRange)
		}
		refuse(t, counting(), c, given{steps: 0, model: samples.Bits("0"), tr: api.Trace{Init: make([]bool, len(c.Latches))}}, api.ErrRange)
	}
}

// 16.1 to 16.4: circuits and numbers of steps with as many variables as there may be, or with one step more; some come to just MaxCnf variables, some to one more.
func TestMostVariables(t *testing.T) {
	r := rand.New(rand.NewSource(184))
	just, over := 0, 0
	for _, most := range []int{512, 513, 514, 1024, 4161, 13797, api.MaxVar - 1, api.MaxVar} {
		c := api.Circuit{Max: most, Inputs: []int{2 * most}, Latches: []api.Latch{{Lit: 4, Next: 2 * most}}, Ands: []api.And{{Out: 2, Left: 4, Right: 2*most + 1}}, Constraints: []int{3}}
		steps := (api.MaxCnf - 1) / most
		g := fitting(c, steps-1, steps, r)
		asWords(t, append(counting(), some("Lit", "Step", "First")...), c, g)
		g.tr = samples.Run(c, steps, r.Intn)
		asWords(t, some("Model"), c, g)
		next := fitting(c, steps-2, steps, r)
		asWords(t, some("Next"), c, next)
		for _, x := range calls() {
			h := g
			if x.name == "Next" {
				h = next
			}
			if got := x.of(c, h); got.e != api.OK {
				t.Fatalf("%s of %s: %v", x.name, brief(c, steps), got.e)
			}
		}
		refuse(t, append(counting(), some("Lit", "Step")...), c, fitting(c, steps, steps+1, r), api.ErrSize)
		refuse(t, some("Next"), c, fitting(c, steps-1, 1, r), api.ErrSize)
		if 1+steps*most == api.MaxCnf {
			just++
		}
		if (steps+1)*most == api.MaxCnf {
			over++
		}
	}
	if just != 3 || over != 3 {
		t.Errorf("%d come to MaxCnf variables, %d to one more", just, over)
	}
}

// sized is a circuit of 100 gates, and as many latches and constraints, of which so many latches begin with 0 or 1.
func sized(latches, constraints, resets int) api.Circuit {
	c := api.Circuit{Max: latches + 100, Constraints: slices.Repeat([]int{1}, constraints)}
	for i := range latches {
		l := 2*i + 202
		reset := l
		if i < resets {
			reset = i % 2
		}
		c.Latches = append(c.Latches, api.Latch{Lit: l, Next: l ^ i%2, Reset: reset})
	}
	for i := range 100 {
		c.Ands = append(c.Ands, api.And{Out: 2*i + 2, Left: 202, Right: 2*i ^ 1})
	}
	return c
}

// 16.3: as many clauses as there may be, and one more, of each kind; where Run refuses that many, no other call does.
func TestMostClauses(t *testing.T) {
	r := rand.New(rand.NewSource(185))
	// 511 steps have 515 clauses each of gates and constraints, 510 of them 512 each of what comes next.
	c := sized(256, 215, 2)
	want := runOf(c, 511)
	if n := len(want.Clauses); n != api.MaxClauses {
		t.Fatalf("%d clauses", n)
	}
	runs(t, c, 511, want)
	runs(t, c, 510, runOf(c, 510))
	one := sized(256, 215, 2)
	one.Ands = append(one.Ands, api.And{Out: 2*one.Max + 2})
	one.Max++
	for _, x := range []struct {
		c     api.Circuit
		steps int
	}{
		{c, 512}, {sized(256, 215, 3), 511}, {sized(256, 215, 256), 511}, {sized(257, 215, 2), 511}, {sized(256, 216, 2), 511}, {one, 511}, {one, 512},
		// One clause more than there may be, since that of what is false is one, too.
		{api.Circuit{Constraints: make([]int, 1024)}, 512}, {api.Circuit{Constraints: make([]int, api.MaxItems)}, 32}, {full(), 8},
		{api.Circuit{Constraints: make([]int, api.MaxItems)}, 512}, {full(), 15},
	} {
		refuse(t, some("Run"), x.c, given{steps: x.steps}, api.ErrSize)
		g := fitting(x.c, x.steps-2, x.steps, r)
		asWords(t, some("Vars", "Trace", "Model", "Step", "Next", "First", "Lit"), x.c, g)
		g.tr = samples.Run(x.c, x.steps, r.Intn)
		asWords(t, some("Model"), x.c, g)
	}
	runs(t, full(), 7, runOf(full(), 7))
	runs(t, api.Circuit{Constraints: make([]int, 1023)}, 512, api.Cnf{Vars: 1, Clauses: append([]api.Clause{{-1}}, slices.Repeat([]api.Clause{{1}}, 512*1023)...)})
}

// full is a circuit of as many gates and constraints as there may be: each gate is what the one behind it in the list is not, and the constraints are all of these that are true, and those that are not, negated.
func full() api.Circuit {
	c := api.Circuit{Max: api.MaxVar}
	for v := api.MaxVar; v > 0; v-- {
		c.Ands = append(c.Ands, api.And{Out: 2 * v, Left: 2*v - 1, Right: 1})
		c.Constraints = append(c.Constraints, 2*v^(1-v%2))
	}
	return c
}

// 16.2: one step of as many gates, constraints, latches and resets as there may be.
func TestLargestSteps(t *testing.T) {
	c := api.Circuit{Max: api.MaxVar}
	for v := api.MaxVar; v > 0; v-- {
		c.Latches = append(c.Latches, api.Latch{Lit: 2 * v, Next: 2 * (api.MaxVar + 1 - v), Reset: v % 2})
	}
	asWords(t, some("Step", "Next", "First"), c, given{step: 13})
	asWords(t, some("Step", "Next", "First"), full(), given{step: 13})
	if n := len(firstOf(c)); n != api.MaxItems {
		t.Errorf("%d resets", n)
	}
	if n := len(stepOf(full(), 0)); n != 4*api.MaxItems {
		t.Errorf("%d clauses", n)
	}
}
