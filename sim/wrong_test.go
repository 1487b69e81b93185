package sim_test

import (
	"math"
	"math/rand"
	"slices"
	"testing"

	"trestle/api"
	"trestle/samples"
	"trestle/shape"
)

// wrongCounts is how many truths there may not be where there must be n; samples.Right has three latches and two inputs.
func wrongCounts(n int) []int {
	all := []int{0, n - 1, n + 1, 2 * n, 64, api.MaxItems, api.MaxItems + 1, 2*api.MaxItems + 1}
	return slices.DeleteFunc(all, func(k int) bool { return k == n || k < 0 })
}

// 7.1, 7.2: states and rows that do not fit, too many for any list too, one of them or both.
func TestStepsThatDoNotFit(t *testing.T) {
	c := samples.Right()
	for _, n := range wrongCounts(3) {
		refuse(t, n, stepCalls(c, make([]bool, n), samples.Bits("00")), api.ErrShape)
		refuse(t, n, startCall(c, make([]bool, n)), api.ErrShape)
		for _, k := range wrongCounts(2) {
			refuse(t, []int{n, k}, stepCalls(c, make([]bool, n), make([]bool, k)), api.ErrShape)
		}
	}
	for _, k := range wrongCounts(2) {
		refuse(t, k, stepCalls(c, samples.Bits("000"), make([]bool, k)), api.ErrShape)
	}
	// As many as both together, in each other's place.
	refuse(t, "changed over", stepCalls(c, samples.Bits("00"), samples.Bits("000")), api.ErrShape)
	refuse(t, "nil", stepCalls(c, nil, nil), api.ErrShape)
	refuse(t, "nil", startCall(c, nil), api.ErrShape)
	// Of a circuit of nothing.
	refuse(t, "one of none", stepCalls(api.Circuit{}, samples.Bits("0"), nil), api.ErrShape)
	refuse(t, "one of none", stepCalls(api.Circuit{}, nil, samples.Bits("1")), api.ErrShape)
	refuse(t, "one of none", startCall(api.Circuit{}, samples.Bits("0")), api.ErrShape)
	// The chapter's example.
	refuse(t, "two of one", stepCalls(turning(), samples.Bits("00"), nil), api.ErrShape)
	refuse(t, "two of one", startCall(turning(), samples.Bits("00")), api.ErrShape)
}

// trace is a trace of n rows that fits the circuit samples.Right.
func trace(n int) api.Trace {
	return api.Trace{Init: samples.Bits("010"), Inputs: slices.Repeat(rows("01"), n), Loop: -1}
}

// 7.3: how many rows there may be, and which loops.
func TestRowsAndLoops(t *testing.T) {
	for _, n := range []int{0, 1, 2, 3, api.MaxFrames - 1, api.MaxFrames, api.MaxFrames + 1, api.MaxItems, api.MaxItems + 1} {
		for _, loop := range []int{math.MinInt, -n, -2, -1, 0, 1, n - 2, n - 1, n, n + 1, api.MaxFrames, math.MaxInt} {
			tr := trace(n)
			tr.Loop = loop
			if n >= 1 && n <= api.MaxFrames && loop >= -1 && loop <= n-1 {
				if got := run(t, samples.Right(), tr); len(got) != n {
					t.Errorf("%d rows, Loop %d: %d moments", n, loop, len(got))
				}
				continue
			}
			refuse(t, []int{n, loop}, runCall(samples.Right(), tr), api.ErrShape)
		}
	}
}

// 7.3: traces that do not fit: a first state, any one of the rows, and several wrong things in one.
func TestTracesThatDoNotFit(t *testing.T) {
	for _, n := range wrongCounts(3) {
		tr := trace(2)
		tr.Init = make([]bool, n)
		refuse(t, n, runCall(samples.Right(), tr), api.ErrShape)
		tr.Loop, tr.Inputs = 2, rows("0")
		refuse(t, n, runCall(samples.Right(), tr), api.ErrShape)
	}
	for _, n := range []int{1, 3, api.MaxFrames} {
		for _, at := range []int{0, n / 2, n - 1} {
			for _, k := range wrongCounts(2) {
				tr := trace(n)
				tr.Inputs[at] = make([]bool, k)
				refuse(t, []int{n, at, k}, runCall(samples.Right(), tr), api.ErrShape)
			}
		}
	}
	// As many truths in all as there must be.
	tr := trace(2)
	tr.Inputs = rows("0", "000")
	refuse(t, "one too few, one too many", runCall(samples.Right(), tr), api.ErrShape)
	refuse(t, "nothing", runCall(samples.Right(), api.Trace{}), api.ErrShape)
	refuse(t, "no rows", runCall(turning(), api.Trace{Init: samples.Bits("0"), Loop: -1}), api.ErrShape)
	refuse(t, "no rows", runCall(api.Circuit{}, api.Trace{Inputs: [][]bool{}, Loop: -1}), api.ErrShape)
	refuse(t, "Loop behind the last row", runCall(turning(), api.Trace{Init: samples.Bits("0"), Inputs: rows(""), Loop: 1}), api.ErrShape)
	refuse(t, "a truth of no input", runCall(turning(), api.Trace{Init: samples.Bits("0"), Inputs: rows("", "0")}), api.ErrShape)
}

// R1, R2: what is wrong with a circuit is told ahead of what does not fit it.
func TestCircuitsThatAreWrong(t *testing.T) {
	wrong := api.Trace{Init: samples.Bits("0"), Loop: 7}
	for _, f := range samples.Faults() {
		c := f.Circuit()
		refuse(t, f.Name, slices.Concat(stepCalls(c, samples.Bits("000"), samples.Bits("00")), startCall(c, samples.Bits("000")), runCall(c, trace(2))), f.Want)
		refuse(t, f.Name, slices.Concat(stepCalls(c, samples.Bits("0"), nil), startCall(c, samples.Bits("0000")), runCall(c, wrong)), f.Want)
	}
	refuse(t, "Max below 0", stepCalls(api.Circuit{Max: -1}, nil, nil), api.ErrRange)
	refuse(t, "Max below 0", runCall(api.Circuit{Max: math.MinInt}, api.Trace{}), api.ErrRange)
	refuse(t, "Max too great", startCall(api.Circuit{Max: api.MaxVar + 1}, nil), api.ErrRange)
}

// R1: of two things that are wrong with a circuit the one is told that layer 3's chapter names first.
func TestCircuitsWithTwoFaults(t *testing.T) {
	all := samples.Faults()
	for i, f := range all {
		for _, g := range all[i+1:] {
			c := f.Circuit()
			g.Do(&c)
			refuse(t, f.Name+", "+g.Name, slices.Concat(stepCalls(c, samples.Bits("000"), samples.Bits("0")), startCall(c, nil), runCall(c, trace(0))), f.Want)
		}
	}
}

// P1, R2: circuits by chance with any numbers in them: all calls end, and refuse just what layer 3 refuses of them.
func TestAnyNumbers(t *testing.T) {
	r := rand.New(rand.NewSource(76))
	seen := map[api.Errno]int{}
	for range 20000 {
		c := samples.AnyNumbers(r.Intn)
		_, want := shape.Check(c)
		seen[want]++
		tr := samples.Trace(c, 1+r.Intn(3), r.Intn)
		if want == api.OK {
			asWords(t, c, tr.Init, tr.Inputs[0])
			runs(t, c, tr, runOf(c, tr))
			continue
		}
		refuse(t, c, slices.Concat(stepCalls(c, tr.Init, tr.Inputs[0]), startCall(c, tr.Init), runCall(c, tr)), want)
	}
	for _, e := range samples.CodesOfNumbers() {
		if seen[e] < 10 {
			t.Errorf("%v came but %d times", e, seen[e])
		}
	}
}
