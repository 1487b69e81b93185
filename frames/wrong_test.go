package frames_test

import (
	"math"
	"math/rand"
	"slices"
	"testing"

	"trestle/api"
	"trestle/samples"
	"trestle/shape"
)

// wrongCounts is how many members there may not be where there must be n.
func wrongCounts(n int) []int {
	all := []int{0, 1, n - 1, n + 1, 2 * n, 64, api.MaxFrames, api.MaxFrames + 1, api.MaxItems, api.MaxItems + 1, api.MaxCnf, api.MaxCnf + 1}
	return slices.DeleteFunc(all, func(k int) bool { return k == n || k < 0 })
}

// 16.4: models of no truth, of one too few and too many, of as many as another number of steps has, and of many more than a list has members otherwise.
func TestModelsThatDoNotFit(t *testing.T) {
	for _, c := range bare() {
		for _, steps := range []int{1, 2, 3, 100, api.MaxFrames} {
			vars := 1 + steps*c.Max
			for _, n := range append(wrongCounts(vars), vars-c.Max, vars+c.Max, c.Max, steps*c.Max) {
				if n != vars {
					refuse(t, some("Trace"), c, given{steps: steps, model: make([]bool, n)}, api.ErrShape)
				}
			}
			refuse(t, some("Trace"), c, given{steps: steps}, api.ErrShape)
			asWords(t, some("Trace"), c, given{steps: steps, model: make([]bool, vars)})
		}
	}
	c := api.Circuit{Max: 513}
	for _, n := range []int{api.MaxCnf - 1, api.MaxCnf + 1, api.MaxItems, api.MaxItems + 1} {
		refuse(t, some("Trace"), c, given{steps: 511, model: make([]bool, n)}, api.ErrShape)
	}
}

// blank is a trace of all truths false that goes with samples.Right, of three latches and two inputs, or with as many as are told.
func blank(latches, steps, inputs int) api.Trace {
	tr := api.Trace{Init: make([]bool, latches), Loop: -1}
	for range steps {
		tr.Inputs = append(tr.Inputs, make([]bool, inputs))
	}
	return tr
}

// 16.4: traces with too few or too many first values, rows, or values in a row, the first or the last one; also where what is there begins as none may.
func TestTracesThatDoNotFit(t *testing.T) {
	c := samples.Right()
	wrong := func(c api.Circuit, steps int, tr api.Trace) {
		t.Helper()
		for range 2 {
			for _, tr.Loop = range []int{-1, 0, steps, -7} {
				refuse(t, some("Model"), c, given{steps: steps, tr: tr}, api.ErrShape)
			}
			samples.Fill(tr.Init, true)
		}
	}
	for _, steps := range []int{1, 2, 3, 40, api.MaxFrames} {
		for _, n := range wrongCounts(3) {
			wrong(c, steps, blank(n, steps, 2))
		}
		for _, n := range wrongCounts(steps) {
			if n <= api.MaxItems+1 {
				wrong(c, steps, blank(3, n, 2))
			}
		}
		for _, n := range wrongCounts(2) {
			for _, at := range []int{0, steps / 2, steps - 1} {
				tr := blank(3, steps, 2)
				tr.Inputs[at] = make([]bool, n)
				wrong(c, steps, tr)
			}
		}
		wrong(c, steps, blank(2, steps, 3))
		wrong(c, steps, api.Trace{})
		wrong(c, steps, api.Trace{Init: make([]bool, 3), Inputs: make([][]bool, steps)})
		wrong(api.Circuit{}, steps, blank(1, steps, 0))
		wrong(api.Circuit{}, steps, blank(0, steps+1, 0))
		wrong(api.Circuit{}, steps, blank(0, steps-1, 0))
		wrong(api.Circuit{Max: 4}, steps, blank(0, steps, 1))
		wrong(turning(), steps, blank(0, steps, 0))
		wrong(turning(), steps, blank(2, steps, 0))
	}
}

// givens is what is handed in beside a circuit: what goes with samples.Right, nothing, and what goes with no circuit.
func givens() []given {
	return []given{
		{lit: 25, step: 2, steps: 3, model: make([]bool, 37), tr: blank(3, 3, 2)}, {},
		{lit: -1, step: -1, steps: 513, model: samples.Bits("000"), tr: blank(1, 2, 3)},
		{lit: math.MaxInt, step: math.MaxInt, steps: math.MinInt, model: make([]bool, api.MaxCnf+1), tr: blank(api.MaxItems+1, api.MaxItems+1, 0)},
	}
}

// R1, R2: what is wrong with a circuit is told ahead of a literal, a step, a number of steps, a model and a trace that are wrong; of two things that are wrong with it, the one that layer 3's chapter names first.
func TestWrongCircuits(t *testing.T) {
	all := samples.Faults()
	for i, f := range all {
		for _, g := range givens() {
			refuse(t, calls(), f.Circuit(), g, f.Want)
		}
		for _, also := range all[i+1:] {
			c := f.Circuit()
			also.Do(&c)
			refuse(t, calls(), c, givens()[i%4], f.Want)
		}
	}
	for _, most := range []int{-1, -2, math.MinInt, api.MaxVar + 1, 2 * api.MaxVar, api.MaxCnf, math.MaxInt} {
		for _, g := range givens() {
			refuse(t, calls(), api.Circuit{Max: most}, g, api.ErrRange)
		}
	}
}

// R1, 16.1: a literal is looked at ahead of a step, so that one that is none is ErrRange, also where there are too many variables.
func TestLiteralAheadOfStep(t *testing.T) {
	c := api.Circuit{Max: api.MaxVar}
	refuse(t, some("Lit"), c, given{lit: 2, step: 15}, api.ErrSize)
	refuse(t, some("Lit"), c, given{lit: 2, step: 511}, api.ErrSize)
	for _, l := range outside(api.MaxVar) {
		for _, step := range []int{-1, 0, 14, 15, 511, 512} {
			refuse(t, some("Lit"), c, given{lit: l, step: step}, api.ErrRange)
		}
	}
}

// R1, 16.1 to 16.4: a range is told ahead of a size, a size ahead of a shape, a shape ahead of a form.
func TestOrderOfErrors(t *testing.T) {
	// 16 steps have one variable too many, 33 steps of the constraints too many clauses.
	large := api.Circuit{Max: api.MaxVar, Inputs: []int{2}, Latches: []api.Latch{{Lit: 4, Next: 4}}}
	fit := blank(1, 16, 1)
	short := blank(1, 15, 1)
	begins := blank(1, 16, 1)
	begins.Init[0] = true
	for _, tr := range []api.Trace{fit, short, begins, {}} {
		for _, model := range [][]bool{nil, make([]bool, api.MaxCnf), make([]bool, api.MaxCnf+1)} {
			g := given{step: 511, model: model, tr: tr}
			for _, g.steps = range []int{16, 17, 100, 512} {
				refuse(t, counting(), large, g, api.ErrSize)
			}
			for _, g.steps = range []int{-1, 0, 513, math.MaxInt} {
				refuse(t, counting(), large, g, api.ErrRange)
			}
			refuse(t, some("Lit", "Step"), large, g, api.ErrSize)
			refuse(t, some("Next"), large, g, api.ErrRange)
			for _, g.step = range []int{15, 16, 510} {
				refuse(t, stepwise(), large, g, api.ErrSize)
			}
			g.step = 14
			refuse(t, some("Next"), large, g, api.ErrSize)
			for _, g.step = range []int{-1, 512, math.MaxInt, math.MinInt} {
				refuse(t, stepwise(), large, g, api.ErrRange)
			}
		}
	}
	// A trace that begins as none may, and whose steps do not hold, with something that does not fit.
	c := api.Circuit{Max: 2, Inputs: []int{2}, Latches: []api.Latch{{Lit: 4, Next: 4}}, Constraints: []int{2}}
	for _, first := range []string{"0", "1"} {
		for _, row := range []string{"0", "1"} {
			want := api.ErrForm
			if first == "0" && row == "1" {
				want = api.OK
			}
			if _, e := modelOfBy(c, 2, samples.Told(-1, first, row, row)); e != want {
				t.Fatalf("%v, want %v", e, want)
			}
			for _, tr := range []api.Trace{
				samples.Told(-1, first, row), samples.Told(-1, first, row, row, row), samples.Told(-1, first+first, row, row), samples.Told(-1, "", row, row),
				samples.Told(-1, first, row, ""), samples.Told(-1, first, row+row, row),
			} {
				refuse(t, some("Model"), c, given{steps: 2, tr: tr}, api.ErrShape)
			}
		}
	}
}

// modelOfBy is Model's answer.
func modelOfBy(c api.Circuit, steps int, tr api.Trace) ([]bool, api.Errno) {
	a := some("Model")[0].of(c, given{steps: steps, tr: tr})
	return a.model, a.e
}

// anyGiven is what may be handed in beside a circuit, right or not, some of it wrong.
func anyGiven(c api.Circuit, right bool, r *rand.Rand) given {
	some := [...]int{-1, 0, 510, 511, 512, 513, math.MaxInt, math.MinInt}
	g := given{steps: 1 + r.Intn(5), step: r.Intn(6)}
	// The greatest variable of a wrong circuit may be no size.
	most := max(0, min(c.Max, 40))
	g.lit = r.Intn(2*most+6) - 2
	tr := samples.Trace(c, g.steps, r.Intn)
	if right && r.Intn(2) == 0 {
		tr = samples.Run(c, g.steps, r.Intn)
	}
	switch r.Intn(16) {
	case 0:
		tr.Init = samples.Truths(r.Intn(5), r.Intn)
	case 1:
		tr.Inputs = append(tr.Inputs, samples.Truths(len(c.Inputs), r.Intn))
	case 2:
		tr.Inputs = tr.Inputs[:r.Intn(len(tr.Inputs)+1)]
	case 3:
		if n := len(tr.Inputs); n > 0 {
			tr.Inputs[r.Intn(n)] = samples.Truths(r.Intn(5), r.Intn)
		}
	}
	g.tr = tr
	g.model = samples.Truths(max(0, 1+g.steps*most+[...]int{0, 0, 0, 0, 0, 0, -1, 1}[r.Intn(8)]), r.Intn)
	switch r.Intn(16) {
	case 0:
		g.steps = some[r.Intn(len(some))]
	case 1:
		g.step = some[r.Intn(len(some))]
	}
	return g
}

// P1, R1, R2: circuits by chance with any numbers in them, and anything beside them: all calls end, and tell what the chapter's words say.
func TestAnyNumbers(t *testing.T) {
	r := rand.New(rand.NewSource(201))
	seen := map[api.Errno]int{}
	for range 20000 {
		c := samples.AnyNumbers(r.Intn)
		_, e := shape.Check(c)
		seen[e]++
		asWords(t, calls(), c, anyGiven(c, e == api.OK, r))
	}
	for _, e := range samples.CodesOfNumbers() {
		if seen[e] < 10 {
			t.Errorf("%v came but %d times", e, seen[e])
		}
	}
}

// P1, R1: right circuits, and anything beside them: each error of each call that comes of a few things comes, where the chapter's words say so.
func TestAnythingBeside(t *testing.T) {
	r := rand.New(rand.NewSource(202))
	type outcome struct {
		name string
		e    api.Errno
	}
	seen := map[outcome]int{}
	for range 10000 {
		c := samples.Circuit(r.Intn)
		g := anyGiven(c, true, r)
		asWords(t, calls(), c, g)
		for _, x := range calls() {
			seen[outcome{x.name, wrongOf(x.name, c, g)}]++
		}
	}
	for _, want := range []outcome{
		{"Lit", api.OK}, {"Lit", api.ErrRange}, {"Vars", api.OK}, {"Vars", api.ErrRange}, {"Step", api.OK}, {"Step", api.ErrRange}, {"Next", api.OK}, {"Next", api.ErrRange}, {"First", api.OK},
		{"Run", api.OK}, {"Run", api.ErrRange}, {"Trace", api.OK}, {"Trace", api.ErrRange}, {"Trace", api.ErrShape}, {"Model", api.OK}, {"Model", api.ErrRange}, {"Model", api.ErrShape}, {"Model", api.ErrForm},
	} {
		if seen[want] < 100 {
			t.Errorf("%+v came but %d times", want, seen[want])
		}
	}
}
