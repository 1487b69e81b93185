package sweep_test

import (
	"math"
	"math/rand"
	"testing"

	"trestle/api"
	"trestle/samples"
	"trestle/shape"
)

// wrongAnyway is traces that are handed in beside a circuit that is wrong: some would fit samples.Right, others fit nothing.
func wrongAnyway() []api.Trace {
	return []api.Trace{
		samples.Told(-1, "010", "01"), samples.Told(0, "111", "00", "11"), {}, samples.Told(7, "0", "1"), samples.Told(-2, "0000"),
		{Init: make([]bool, api.MaxItems+1), Inputs: make([][]bool, api.MaxItems+1)},
	}
}

// R1, R2: what layer 3 refuses is told ahead of all else; of two things that are wrong with a circuit, the one that layer 3's chapter names first.
func TestWrongCircuits(t *testing.T) {
	all := samples.Faults()
	for i, f := range all {
		for _, tr := range wrongAnyway() {
			refuse(t, f.Name, calls(), f.Circuit(), tr, f.Want)
		}
		for _, g := range all[i+1:] {
			c := f.Circuit()
			g.Do(&c)
			refuse(t, f.Name+", "+g.Name, calls(), c, wrongAnyway()[i%4], f.Want)
		}
	}
	for _, most := range []int{-1, math.MinInt, api.MaxVar + 1, math.MaxInt} {
		for _, tr := range wrongAnyway() {
			refuse(t, most, calls(), api.Circuit{Max: most}, tr, api.ErrRange)
		}
	}
	refuse(t, "too many latches", calls(), api.Circuit{Max: api.MaxVar, Latches: make([]api.Latch, api.MaxItems+1)}, api.Trace{}, api.ErrLong)
}

// doesNotFit holds Trace of a circuit against ErrShape.
func doesNotFit(t *testing.T, what any, c api.Circuit, tr api.Trace) {
	t.Helper()
	refuse(t, what, calls()[1:], c, tr, api.ErrShape)
}

// 11.2: first values that are not as many as what is swept has latches: those of the circuit as it was are too many.
func TestFirstStatesThatDoNotFit(t *testing.T) {
	c := several()
	for _, k := range []int{0, 1, 2, 4, 5, 6, 7, 8, api.MaxItems, api.MaxItems + 1} {
		for _, rows := range [][]string{{"00"}, {"01", "10"}, nil, {"0"}, {"11", "000"}} {
			tr := samples.Told(-1, "", rows...)
			tr.Init = make([]bool, k)
			doesNotFit(t, k, c, tr)
		}
	}
	doesNotFit(t, "all constant", api.Circuit{Max: 1, Latches: latches(2, [2]int{2, 1})}, samples.Told(-1, "1", ""))
	doesNotFit(t, "no latch", api.Circuit{}, samples.Told(-1, "0", ""))
	doesNotFit(t, "nothing", api.Circuit{Max: 1, Latches: latches(2, [2]int{3, 1})}, samples.Told(-1, "", ""))
}

// 11.2: rows that are none, too many, too short or too long, each one of them.
func TestRowsThatDoNotFit(t *testing.T) {
	c := several()
	for _, n := range []int{0, api.MaxFrames + 1, api.MaxFrames + 2, 2 * api.MaxFrames, api.MaxItems, api.MaxItems + 1} {
		for _, loop := range []int{-1, 0, n - 1} {
			tr := samples.Told(loop, "000")
			for range n {
				tr.Inputs = append(tr.Inputs, samples.Bits("01"))
			}
			doesNotFit(t, n, c, tr)
			doesNotFit(t, n, api.Circuit{}, api.Trace{Inputs: make([][]bool, n), Loop: loop})
		}
	}
	for _, width := range []int{0, 1, 3, 4, 7, api.MaxItems, api.MaxItems + 1} {
		for _, n := range []int{1, 2, 5, api.MaxFrames} {
			for _, at := range []int{0, n / 2, n - 1} {
				tr := samples.Told(-1, "000")
				for range n {
					tr.Inputs = append(tr.Inputs, samples.Bits("10"))
				}
				tr.Inputs[at] = make([]bool, width)
				doesNotFit(t, []int{width, n, at}, c, tr)
			}
		}
	}
	doesNotFit(t, "one too short, one too long", c, samples.Told(-1, "000", "0", "000"))
	doesNotFit(t, "no input", api.Circuit{}, samples.Told(-1, "", "", "0"))
}

// 11.2: loops that are no step, nor -1, alone and beside other wrong things.
func TestLoopsThatDoNotFit(t *testing.T) {
	for _, n := range []int{1, 2, 7} {
		for _, loop := range []int{math.MinInt, -n - 1, -2, n, n + 1, api.MaxFrames, math.MaxInt} {
			for _, first := range []string{"000", "101", "00", "0000000"} {
				for _, row := range []string{"01", "1"} {
					tr := samples.Told(loop, first)
					for range n {
						tr.Inputs = append(tr.Inputs, samples.Bits(row))
					}
					doesNotFit(t, loop, several(), tr)
				}
			}
		}
	}
	doesNotFit(t, "a loop to no row", api.Circuit{}, api.Trace{})
}

// spoiled is a trace of which something may have been changed, so that it may not fit any more.
func spoiled(tr api.Trace, r *rand.Rand) api.Trace {
	switch r.Intn(8) {
	case 0:
		tr.Init = append(tr.Init, true)
	case 1:
		tr.Init = tr.Init[:r.Intn(len(tr.Init)+1)]
	case 2:
		tr.Inputs = append(tr.Inputs, make([]bool, r.Intn(4)))
	case 3:
		tr.Inputs = tr.Inputs[:r.Intn(len(tr.Inputs)+1)]
	case 4:
		tr.Loop = r.Intn(len(tr.Inputs)+3) - 2
	}
	return tr
}

// R1, 11.2: right circuits, and traces of what they are swept to, or almost: both calls tell what the chapter's words say.
func TestAlmostTraces(t *testing.T) {
	r := rand.New(rand.NewSource(114))
	seen := map[api.Errno]int{}
	for range 10000 {
		c := doubled(samples.Circuit(r.Intn), r)
		tr := spoiled(someTrace(t, c, 1+r.Intn(3), r), r)
		seen[answerOf("Trace", c, tr).e]++
		asWords(t, c, tr)
	}
	if len(seen) != 2 || min(seen[api.OK], seen[api.ErrShape]) < 2000 {
		t.Errorf("%v", seen)
	}
}

// P1, R2: circuits by chance with any numbers in them: both calls end, and refuse just what layer 3 refuses, or a trace that does not fit.
func TestAnyNumbers(t *testing.T) {
	r := rand.New(rand.NewSource(115))
	seen := map[api.Errno]int{}
	for range 20000 {
		c := samples.AnyNumbers(r.Intn)
		_, e := shape.Check(c)
		seen[e]++
		asWords(t, c, samples.Trace(c, 1+r.Intn(3), r.Intn))
	}
	for _, e := range samples.CodesOfNumbers() {
		if seen[e] < 10 {
			t.Errorf("%v came but %d times", e, seen[e])
		}
	}
}
