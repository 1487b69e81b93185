package replay_test

import (
	"math/rand"
	"testing"

	"trestle/api"
	"trestle/samples"
	"trestle/shape"
)

// spoiled is a trace of which something may have been changed, so that it may not fit, or be no run, any more.
func spoiled(tr api.Trace, r *rand.Rand) api.Trace {
	switch r.Intn(14) {
	case 0:
		tr.Init = append(tr.Init, true)
	case 1:
		tr.Init = tr.Init[:r.Intn(len(tr.Init)+1)]
	case 2:
		tr.Inputs = append(tr.Inputs, make([]bool, r.Intn(4)))
	case 3:
		tr.Inputs = tr.Inputs[:r.Intn(len(tr.Inputs)+1)]
	case 4:
		tr.Loop = r.Intn(len(tr.Inputs)+4) - 3
	case 5:
		samples.Flip(tr.Init)
	case 6:
		for _, row := range tr.Inputs {
			samples.Flip(row)
		}
	case 7:
		if len(tr.Inputs) > 0 {
			samples.Flip(tr.Inputs[r.Intn(len(tr.Inputs))])
		}
	}
	return tr
}

// anyTrace is a trace by chance, mostly a run, and often a lasso, of a right circuit; something of it may be changed.
func anyTrace(c api.Circuit, r *rand.Rand) api.Trace {
	if r.Intn(5) == 0 {
		return spoiled(samples.Trace(c, 1+r.Intn(4), r.Intn), r)
	}
	tr := samples.Run(c, 1+r.Intn(10), r.Intn)
	if homes := samples.Homes(c, tr); len(homes) > 0 {
		tr.Loop = homes[r.Intn(len(homes))]
	}
	if r.Intn(4) == 0 {
		tr.Loop = r.Intn(len(tr.Inputs)+1) - 1
	}
	return spoiled(tr, r)
}

// anyGiven is a trace by chance, and numbers that may be those of a property.
func anyGiven(c api.Circuit, tr api.Trace, r *rand.Rand) given {
	about := func(n int) int { return r.Intn(n+2) - r.Intn(2) }
	g := given{i: about(3), p: api.Prop{Kind: 'b', At: about(len(c.Bads))}, tr: tr}
	switch {
	case r.Intn(10) == 0:
		g.p.Kind = byte(r.Intn(256))
	case r.Intn(2) == 0:
		g.p = api.Prop{Kind: 'j', At: about(len(c.Justice))}
	}
	return g
}

// 13.1 to 13.3, R1: circuits, traces and properties by chance: all calls tell what the chapter's words say, and each of their answers comes.
func TestByChance(t *testing.T) {
	type outcome struct {
		name string
		e    api.Errno
	}
	r := rand.New(rand.NewSource(131))
	seen := map[outcome]int{}
	for range 40000 {
		c := samples.Circuit(r.Intn)
		g := anyGiven(c, anyTrace(c, r), r)
		asWords(t, c, g)
		for _, x := range calls() {
			seen[outcome{x.name, answerOf(x.name, c, g).e}]++
		}
	}
	for name, all := range map[string][]api.Errno{
		"Bad":     {api.OK, api.ErrNone, api.ErrShape, api.ErrInit, api.ErrBroken, api.ErrMissed},
		"Justice": {api.OK, api.ErrNone, api.ErrShape, api.ErrInit, api.ErrBroken, api.ErrOpen, api.ErrUnfair},
		"Prop":    {api.OK, api.ErrNone, api.ErrShape, api.ErrInit, api.ErrBroken, api.ErrMissed, api.ErrOpen, api.ErrUnfair},
		"Reached": {api.OK, api.ErrShape, api.ErrInit, api.ErrBroken},
	} {
		for _, e := range all {
			if seen[outcome{name, e}] < 300 {
				t.Errorf("%s: %v came but %d times", name, e, seen[outcome{name, e}])
			}
		}
	}
}

// shortTraces is all traces of up to so many rows of one input, with each first value of one latch and each loop.
func shortTraces(rows int) []api.Trace {
	var all []api.Trace
	for n := 1; n <= rows; n++ {
		for _, inputs := range samples.AllLists(n, []bool{false}, []bool{true}) {
			for _, first := range []string{"0", "1"} {
				for loop := -1; loop < n; loop++ {
					all = append(all, api.Trace{Init: samples.Bits(first), Inputs: inputs, Loop: loop})
				}
			}
		}
	}
	return all
}

// 13.1 to 13.3: of an input, a latch and a gate, with each reset, next state and constraint, and some properties: all short traces.
func TestAllSmall(t *testing.T) {
	traces := shortTraces(3)
	for _, gate := range [][2]int{{2, 4}, {3, 4}, {5, 3}} {
		for next := range 8 {
			for _, reset := range []int{0, 1, 4} {
				for _, constraints := range [][]int{nil, {2}, {3}, {5}, {7}, {7, 2}} {
					c := api.Circuit{
						Max: 3, Inputs: []int{2}, Latches: []api.Latch{{Lit: 4, Next: next, Reset: reset}}, Ands: []api.And{{Out: 6, Left: gate[0], Right: gate[1]}},
						Bads: []int{6, 4}, Constraints: constraints, Justice: [][]int{{2}, {5, 4}, nil}, Fairness: []int{7},
					}
					for _, tr := range traces {
						asWords(t, c, given{i: 0, p: api.Prop{Kind: 'b', At: 1}, tr: tr})
						asWords(t, c, given{i: 1, p: api.Prop{Kind: 'j', At: 2}, tr: tr})
						asWords(t, c, given{i: 2, p: api.Prop{Kind: 'j', At: 0}, tr: tr})
					}
				}
			}
		}
	}
}

// P1, R2: circuits by chance with any numbers in them: all calls end, and refuse just what layer 3 refuses, or what the chapter says besides.
func TestAnyNumbers(t *testing.T) {
	r := rand.New(rand.NewSource(132))
	seen := map[api.Errno]int{}
	for range 20000 {
		c := samples.AnyNumbers(r.Intn)
		_, e := shape.Check(c)
		seen[e]++
		asWords(t, c, anyGiven(c, samples.Trace(c, 1+r.Intn(3), r.Intn), r))
	}
	for _, e := range samples.CodesOfNumbers() {
		if seen[e] < 10 {
			t.Errorf("%v came but %d times", e, seen[e])
		}
	}
}
