package replay_test

import (
	"math"
	"slices"
	"strings"
	"testing"

	"trestle/api"
	"trestle/samples"
)

// 13.1: the chapter's examples, and the document's.
func TestBadByExample(t *testing.T) {
	c := turning()
	bad(t, c, 0, samples.Told(-1, "0", "", ""), 1, api.OK)
	bad(t, c, 0, samples.Told(-1, "0", ""), 0, api.ErrMissed)
	bad(t, c, 0, samples.Told(-1, "1", ""), 0, api.ErrInit)
	c.Latches[0].Reset = 1
	bad(t, c, 0, samples.Told(-1, "1", ""), 0, api.OK)
	d := inputs(1)
	d.Bads, d.Constraints = []int{1}, []int{3}
	bad(t, d, 0, bits("", "01"), 1, api.ErrBroken)
	bad(t, d, 0, bits("", "00"), 1, api.OK)
	// Example 4 of the whole: a latch that is what an input was, which is always 0, or not.
	f := following(1)
	f.Latches[0].Reset, f.Bads, f.Constraints = 0, []int{4}, []int{3}
	bad(t, f, 0, bits("0", "10"), 0, api.ErrBroken)
	bad(t, f, 0, bits("0", "00"), 1, api.ErrMissed)
	f.Constraints = nil
	bad(t, f, 0, bits("0", "10"), 1, api.OK)
}

// 13.1: of one step up to as many as there may be, whether the bad is true in the last one, and which that is.
func TestLastSteps(t *testing.T) {
	for n := 1; n <= api.MaxFrames; n++ {
		want := api.OK
		if n%2 == 1 {
			want = api.ErrMissed
		}
		bad(t, turning(), 0, empty("0", n, -1), n-1, want)
	}
	c := counting()
	c.Bads = []int{10, 11, 6, 8, 2, 4}
	for n := 1; n <= 20; n++ {
		count := (n - 1) % 4
		for i, is := range []bool{count == 0 || count == 3, count == 1 || count == 2, count == 1, count == 2, count%2 == 1, count > 1} {
			want := api.OK
			if !is {
				want = api.ErrMissed
			}
			bad(t, c, i, empty("00", n, -1), n-1, want)
		}
	}
}

// 13.1: the bad in the last step alone, in others alone, in some of both, in none: only the last one says whether it is missed.
func TestWhereTheBadIs(t *testing.T) {
	c := inputs(1)
	c.Bads = []int{2, 3, 0, 1}
	for n := 1; n <= 7; n++ {
		for _, s := range allBits(n) {
			is := [...]api.Errno{api.OK, api.ErrMissed, api.ErrMissed, api.OK}
			if strings.HasSuffix(s, "0") {
				is[0], is[1] = is[1], is[0]
			}
			for i, want := range is {
				bad(t, c, i, bits("", s), n-1, want)
			}
		}
	}
	for _, n := range lengths() {
		bad(t, c, 0, bits("", strings.Repeat("0", n-1)+"1"), n-1, api.OK)
		bad(t, c, 0, bits("", strings.Repeat("1", n-1)+"0"), n-1, api.ErrMissed)
	}
}

// 13.1: latches that begin with 0, 1 and either, in all first states: the first one that may not is told.
func TestFirstStates(t *testing.T) {
	c := following(5)
	c.Bads, c.Justice = []int{1}, [][]int{nil}
	for i, reset := range []int{0, 1, 16, 0, 1} {
		c.Latches[i].Reset = reset
	}
	for _, s := range allBits(5) {
		at := -1
		for i := range s {
			if at < 0 && "01x01"[i] != 'x' && "01x01"[i] != s[i] {
				at = i
			}
		}
		for _, rows := range [][]string{{"00000"}, {"11111", "01010"}, {"10101", "00000", "11111"}} {
			tr := samples.Told(-1, s, rows...)
			if at < 0 {
				bad(t, c, 0, tr, len(rows)-1, api.OK)
				justice(t, c, 0, tr, len(rows)-1, api.ErrOpen)
				reached(t, c, tr, 0)
				continue
			}
			noRun(t, c, tr, at, api.ErrInit)
		}
	}
}

// 13.1: the first latch, the last one, of one and of as many as there may be.
func TestFirstAndLastLatch(t *testing.T) {
	for _, n := range []int{1, 2, 3, 64, 1000, api.MaxItems} {
		c := api.Circuit{Max: n, Bads: []int{2 * n}, Justice: [][]int{nil}}
		for i := range n {
			c.Latches = append(c.Latches, api.Latch{Lit: 2*i + 2, Next: 2*i + 2, Reset: (i + 1) % 2})
		}
		right := func() api.Trace {
			tr := empty("", 2, -1)
			for i := range n {
				tr.Init = append(tr.Init, i%2 == 0)
			}
			return tr
		}
		want := api.ErrMissed
		if n%2 == 1 {
			want = api.OK
		}
		bad(t, c, 0, right(), 1, want)
		for _, at := range []int{0, n / 2, n - 1} {
			tr := right()
			tr.Init[at] = !tr.Init[at]
			noRun(t, c, tr, at, api.ErrInit)
			tr.Init[n-1] = n%2 == 0
			noRun(t, c, tr, at, api.ErrInit)
			// What may begin either way may.
			c.Latches[at].Reset = c.Latches[at].Lit
			if at < n-1 {
				noRun(t, c, tr, n-1, api.ErrInit)
			}
			c.Latches[at].Reset = (at + 1) % 2
		}
	}
}

// 13.1: steps that do not hold, any of them: the first one is told, also behind and at steps in which the bad is true, and where it is missed.
func TestBrokenSteps(t *testing.T) {
	c := inputs(2)
	c.Constraints, c.Bads, c.Justice = []int{2}, []int{4, 5, 1, 0}, [][]int{{1}}
	for n := 1; n <= 5; n++ {
		for _, s := range allBits(n) {
			for _, b := range allBits(n) {
				tr := samples.Told(-1, "")
				for i := range n {
					tr.Inputs = append(tr.Inputs, samples.Bits(s[i:i+1]+b[i:i+1]))
				}
				at := strings.Index(s, "0")
				if at >= 0 {
					noRun(t, c, tr, at, api.ErrBroken)
					continue
				}
				want := [...]api.Errno{api.OK, api.ErrMissed, api.OK, api.ErrMissed}
				if strings.HasSuffix(b, "0") {
					want[0], want[1] = want[1], want[0]
				}
				for i, e := range want {
					bad(t, c, i, tr, n-1, e)
				}
			}
		}
	}
}

// 13.1: one step of many that does not hold: the first, a middle and the last one.
func TestOneBrokenStep(t *testing.T) {
	c := inputs(1)
	c.Constraints, c.Bads, c.Justice = []int{1, 3, 3}, []int{1}, [][]int{nil}
	for _, n := range lengths() {
		for _, at := range []int{0, n / 2, n - 1} {
			for _, behind := range []string{"0", "1"} {
				s := strings.Repeat("0", at) + "1" + strings.Repeat(behind, n-1-at)
				noRun(t, c, bits("", s), at, api.ErrBroken)
			}
		}
		bad(t, c, 0, bits("", strings.Repeat("0", n)), n-1, api.OK)
	}
}

// 13.1: of several constraints each one, the first, a middle and the last; by gates, latches, and constants.
func TestSeveralConstraints(t *testing.T) {
	c := following(2)
	c.Max, c.Ands = 6, []api.And{{Out: 12, Left: 10, Right: 3}, {Out: 10, Left: 6, Right: 8}}
	c.Bads, c.Justice = []int{1}, [][]int{nil}
	tr := samples.Told(-1, "00", "10", "11", "01", "00")
	for l, at := range map[int]int{0: 0, 1: -1, 2: 2, 3: 0, 4: 0, 5: 1, 6: 0, 7: 1, 8: 0, 9: 2, 10: 0, 11: 2, 12: 0, 13: 2} {
		for i := range 3 {
			c.Constraints = []int{1, 1, 1}
			c.Constraints[i] = l
			if at < 0 {
				bad(t, c, 0, tr, 3, api.OK)
				continue
			}
			noRun(t, c, tr, at, api.ErrBroken)
		}
	}
	c.Constraints = []int{9, 7, 5}
	noRun(t, c, tr, 1, api.ErrBroken)
	c.Constraints = slices.Repeat([]int{1}, api.MaxItems)
	bad(t, c, 0, tr, 3, api.OK)
	c.Constraints[api.MaxItems-1] = 9
	noRun(t, c, tr, 2, api.ErrBroken)
}

// 13.1: of several things the first one in the chapter's order: a first state, a step, the bad.
func TestOrderOfWhatIsWrong(t *testing.T) {
	c := following(1)
	c.Latches[0].Reset, c.Constraints, c.Bads, c.Justice = 0, []int{3}, []int{4}, [][]int{{4}}
	noRun(t, c, bits("1", "1"), 0, api.ErrInit)
	noRun(t, c, bits("1", "01"), 0, api.ErrInit)
	noRun(t, c, bits("0", "011"), 1, api.ErrBroken)
	noRun(t, c, bits("0", "010"), 1, api.ErrBroken)
	bad(t, c, 0, bits("0", "00"), 1, api.ErrMissed)
	justice(t, c, 0, bits("0", "00"), 1, api.ErrOpen)
	tr := bits("0", "00")
	tr.Loop = 1
	justice(t, c, 0, tr, 0, api.ErrUnfair)
}

// 13.1: Loop is not looked at for a bad, whatever is told of the trace, wherever it goes.
func TestAnyLoopOfABad(t *testing.T) {
	c := following(1)
	c.Latches[0].Reset, c.Constraints, c.Bads = 0, []int{3}, []int{5, 4}
	for _, n := range []int{1, 2, 3, api.MaxFrames} {
		zeros := strings.Repeat("0", n)
		for _, loop := range []int{math.MinInt, -n, -2, -1, 0, n / 2, n - 1, n, n + 1, api.MaxFrames, api.MaxItems, math.MaxInt} {
			ask := func(first, rows string, i, at int, e api.Errno) {
				tr := bits(first, rows)
				tr.Loop = loop
				bad(t, c, i, tr, at, e)
			}
			ask("0", zeros, 0, n-1, api.OK)
			ask("0", zeros, 1, n-1, api.ErrMissed)
			ask("1", zeros, 0, 0, api.ErrInit)
			ask("0", zeros[1:]+"1", 0, n-1, api.ErrBroken)
			ask("00", zeros, 0, 0, api.ErrShape)
			ask("0", zeros, 2, 0, api.ErrNone)
		}
	}
}

// 13.1: circuits without latches, inputs, constraints, without all of these, without gates.
func TestWithout(t *testing.T) {
	for _, n := range lengths() {
		bare := api.Circuit{Bads: []int{1, 0}, Justice: [][]int{nil}}
		bad(t, bare, 0, empty("", n, -1), n-1, api.OK)
		bad(t, bare, 1, empty("", n, -1), n-1, api.ErrMissed)
		justice(t, bare, 0, empty("", n, n/2), n/2, api.OK)
		reached(t, bare, empty("", n, -1), 0)
		bare.Constraints = []int{0}
		noRun(t, bare, empty("", n, 0), 0, api.ErrBroken)
	}
	c := api.Circuit{Max: 3, Inputs: []int{2, 4}, Ands: []api.And{{Out: 6, Left: 2, Right: 5}}, Bads: []int{6}}
	bad(t, c, 0, samples.Told(-1, "", "11", "00", "10"), 2, api.OK)
	bad(t, c, 0, samples.Told(-1, "", "10", "10", "11"), 2, api.ErrMissed)
	c.Constraints = []int{7}
	bad(t, c, 0, samples.Told(-1, "", "11", "00", "10"), 2, api.ErrBroken)
}

// 13.1: several bads, alike and unlike: each by its number, the first one and the last one too; those beside them are none.
func TestNumbersOfBads(t *testing.T) {
	c := turning()
	c.Bads = []int{3, 2, 2, 0, 1, 3}
	for i, want := range []api.Errno{api.ErrMissed, api.OK, api.OK, api.ErrMissed, api.OK, api.ErrMissed} {
		bad(t, c, i, empty("0", 2, -1), 1, want)
	}
	for _, i := range []int{-1, 6, 7, math.MinInt, math.MaxInt, api.MaxItems} {
		bad(t, c, i, empty("0", 2, -1), 0, api.ErrNone)
	}
	c.Bads = slices.Repeat([]int{3}, api.MaxItems)
	c.Bads[0], c.Bads[api.MaxItems-1] = 2, 2
	for i, want := range map[int]api.Errno{0: api.OK, 1: api.ErrMissed, api.MaxItems - 2: api.ErrMissed, api.MaxItems - 1: api.OK} {
		bad(t, c, i, empty("0", 2, -1), 1, want)
	}
	bad(t, c, api.MaxItems, empty("0", 2, -1), 0, api.ErrNone)
}

// 13.1: what else a circuit has changes nothing: outputs, other bads, justice, fairness, symbols of these, comments.
func TestWhatIsNotAsked(t *testing.T) {
	c := turning([]int{0}, nil)
	c.Bads, c.Outputs, c.Fairness, c.Comments = []int{0, 2, 0}, []int{3}, []int{0}, []string{"c"}
	for i, kind := range "obbjf" {
		c.Symbols = append(c.Symbols, api.Symbol{Kind: byte(kind), At: i / 2 % 2, Name: "n"})
	}
	bad(t, c, 1, empty("0", 4, -1), 3, api.OK)
	bad(t, c, 1, empty("0", 3, -1), 2, api.ErrMissed)
	reached(t, c, empty("0", 3, -1), 1)
	c.Fairness = nil
	c.Symbols = c.Symbols[:4]
	justice(t, c, 1, empty("0", 4, 2), 2, api.OK)
}
