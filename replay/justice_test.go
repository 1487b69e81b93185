package replay_test

import (
	"math"
	"slices"
	"strings"
	"testing"

	"trestle/api"
	"trestle/samples"
)

// 13.2: the chapter's examples, and the document's.
func TestJusticeByExample(t *testing.T) {
	c := turning([]int{2}, []int{2, 3}, []int{0})
	two := func(loop int) api.Trace { return empty("0", 2, loop) }
	justice(t, c, 0, two(0), 0, api.OK)
	justice(t, c, 0, two(1), 1, api.ErrOpen)
	justice(t, c, 0, two(-1), 1, api.ErrOpen)
	justice(t, c, 1, two(0), 0, api.OK)
	justice(t, c, 2, two(0), 0, api.ErrUnfair)
	justice(t, c, 3, two(0), 0, api.ErrNone)
}

// 13.2: a loop is closed where the count behind the last step is that of the step to which it goes; -1 is none.
func TestLoopsOfCounting(t *testing.T) {
	c := counting()
	c.Justice = [][]int{nil}
	for n := 1; n <= 13; n++ {
		justice(t, c, 0, empty("00", n, -1), n-1, api.ErrOpen)
		for loop := range n {
			if (n-loop)%4 == 0 {
				justice(t, c, 0, empty("00", n, loop), loop, api.OK)
			} else {
				justice(t, c, 0, empty("00", n, loop), n-1, api.ErrOpen)
			}
		}
	}
	for _, loop := range []int{0, 4, 100, api.MaxFrames - 4} {
		justice(t, c, 0, empty("00", api.MaxFrames, loop), loop, api.OK)
	}
	for _, loop := range []int{-1, 1, 6, 255, api.MaxFrames - 1, api.MaxFrames - 2} {
		justice(t, c, 0, empty("00", api.MaxFrames, loop), api.MaxFrames-1, api.ErrOpen)
	}
}

// 13.2: of what was an input's value the next state of the last step is that step's row: it closes where the state is the same in each latch, the first, a middle and the last one.
func TestClosedInEachLatch(t *testing.T) {
	c := following(3)
	c.Justice = [][]int{nil}
	for _, first := range []string{"000", "101", "110"} {
		for _, then := range []string{"000", "011", "101"} {
			for _, last := range allBits(3) {
				states := []string{first, then, last}
				for loop := range 3 {
					tr := samples.Told(loop, first, then, last, last)
					if last == states[loop] {
						justice(t, c, 0, tr, loop, api.OK)
					} else {
						justice(t, c, 0, tr, 2, api.ErrOpen)
					}
				}
			}
		}
	}
}

// 13.2: a state of as many latches as there may be, closed, and open by the first, a middle and the last one.
func TestClosedInMostLatches(t *testing.T) {
	const n = api.MaxItems - 1
	for _, at := range []int{-1, 0, n / 2, n - 1} {
		c := api.Circuit{Max: n, Justice: [][]int{nil}}
		for i := range n {
			lit := 2*i + 2
			c.Latches = append(c.Latches, api.Latch{Lit: lit, Next: lit, Reset: i % 2})
		}
		tr := api.Trace{Inputs: make([][]bool, 3), Loop: 1}
		for i := range n {
			tr.Init = append(tr.Init, i%2 == 1)
		}
		if at < 0 {
			justice(t, c, 0, tr, 1, api.OK)
			continue
		}
		// It turns: behind three steps it is as it was ahead of the second one, and not as ahead of the others.
		c.Latches[at].Next++
		justice(t, c, 0, tr, 1, api.OK)
		tr.Loop = 0
		justice(t, c, 0, tr, 2, api.ErrOpen)
		tr.Loop = 2
		justice(t, c, 0, tr, 2, api.ErrOpen)
	}
}

// 13.2: without latches, each step may be the loop's.
func TestEachStepAsLoop(t *testing.T) {
	c := inputs(1)
	c.Justice = [][]int{{2}}
	for _, n := range lengths() {
		for _, loop := range []int{0, n / 2, n - 1} {
			tr := bits("", strings.Repeat("0", n-1)+"1")
			tr.Loop = loop
			justice(t, c, 0, tr, loop, api.OK)
			tr.Loop = -1
			justice(t, c, 0, tr, n-1, api.ErrOpen)
			tr = bits("", strings.Repeat("1", loop)+strings.Repeat("0", n-loop))
			tr.Loop = loop
			justice(t, c, 0, tr, 0, api.ErrUnfair)
		}
	}
}

// must is rows of four inputs, told column by column: of each input in which steps it is true.
func must(loop int, columns ...string) api.Trace {
	tr := api.Trace{Loop: loop}
	for step := range columns[0] {
		var row []bool
		for _, s := range columns {
			row = append(row, s[step] == '1')
		}
		tr.Inputs = append(tr.Inputs, row)
	}
	return tr
}

// 13.2: two literals of justice and two of fairness, true in no step, only ahead of Loop, at Loop, at the last one, in several: the first one of them that lacks is told by its number.
func TestWhatMustCome(t *testing.T) {
	c := inputs(4)
	c.Justice, c.Fairness = [][]int{{0}, {2, 5}, nil, {4}}, []int{6, 9}
	columns := []string{"000", "100", "010", "001", "011", "111"}
	comes := func(column string, loop int) bool { return strings.Contains(column[loop:], "1") }
	contrary := strings.NewReplacer("0", "1", "1", "0")
	for _, some := range samples.AllLists(4, columns...) {
		for loop := range 3 {
			tr := must(loop, some[0], contrary.Replace(some[1]), some[2], contrary.Replace(some[3]))
			lacks := -1
			for n := range 4 {
				if lacks < 0 && !comes(some[n], loop) {
					lacks = n
				}
			}
			if lacks < 0 {
				justice(t, c, 1, tr, loop, api.OK)
				continue
			}
			justice(t, c, 1, tr, lacks, api.ErrUnfair)
			// Where the justice property has no literals, fairness is counted from 0 on.
			if lacks >= 2 {
				justice(t, c, 2, tr, lacks-2, api.ErrUnfair)
			}
			justice(t, c, 0, tr, 0, api.ErrUnfair)
		}
	}
}

// 13.2: a justice property without literals, with fairness and without; and fairness alone that lacks.
func TestNothingMustCome(t *testing.T) {
	c := turning(nil, []int{})
	for j := range 2 {
		justice(t, c, j, empty("0", 2, 0), 0, api.OK)
		justice(t, c, j, empty("0", 5, 3), 3, api.OK)
	}
	c.Fairness = []int{3, 2, 1, 3}
	for j := range 2 {
		justice(t, c, j, empty("0", 2, 0), 0, api.OK)
		justice(t, c, j, empty("0", 5, 3), 3, api.OK)
	}
	for n := range c.Fairness {
		c.Fairness[n] = 0
		justice(t, c, 0, empty("0", 4, 2), n, api.ErrUnfair)
		c.Fairness[n] = 1
	}
}

// 13.2: literals that are constant, that stand twice, a literal and its contrary.
func TestSuchLiterals(t *testing.T) {
	for _, x := range []struct {
		must, fair []int
		lacks      int
	}{
		{[]int{1}, nil, -1}, {[]int{1, 1, 1}, []int{1}, -1}, {[]int{0}, nil, 0}, {[]int{1, 0}, nil, 1}, {[]int{1}, []int{0}, 1}, {[]int{1, 1}, []int{1, 1, 0, 0}, 4}, {[]int{2, 2, 3, 3, 2}, nil, -1},
		{[]int{2, 3}, []int{3, 2}, -1}, {[]int{2, 4, 2, 4}, []int{4}, 1}, {[]int{2, 5}, []int{3, 4, 4}, 3}, {[]int{4, 5}, nil, 0}, {nil, []int{2, 3, 5, 2, 4}, 4}, {nil, []int{4}, 0},
	} {
		// A latch that turns, and one that stays 0.
		c := api.Circuit{Max: 2, Latches: []api.Latch{{Lit: 2, Next: 3}, {Lit: 4, Next: 4}}, Justice: [][]int{{0}, x.must, {0}}, Fairness: x.fair}
		for n := 2; n < 9; n++ {
			for loop := n % 2; loop < n; loop += 2 {
				if x.lacks < 0 {
					justice(t, c, 1, empty("00", n, loop), loop, api.OK)
				} else {
					justice(t, c, 1, empty("00", n, loop), x.lacks, api.ErrUnfair)
				}
			}
		}
	}
}

// 13.2: what comes in one step of the loop each, and in none by itself.
func TestOneInEachStep(t *testing.T) {
	c := counting()
	// By these and the gates 6 and 8 each count has a literal: 0 has 12, 1 has 6, 2 has 8, 3 has 14.
	c.Max, c.Ands = 7, append(c.Ands, api.And{Out: 12, Left: 3, Right: 5}, api.And{Out: 14, Left: 2, Right: 4})
	c.Justice = [][]int{{12, 6, 8, 14}, {14, 12}, {14, 6, 0}}
	for _, loop := range []int{0, 1, 2, 3, 4} {
		justice(t, c, 0, empty("00", loop+4, loop), loop, api.OK)
		justice(t, c, 1, empty("00", loop+8, loop), loop, api.OK)
		justice(t, c, 2, empty("00", loop+4, loop), 2, api.ErrUnfair)
	}
}

// 13.2: steps that do not hold are told ahead of an open loop and of what lacks, be they ahead of Loop or behind it.
func TestBrokenLassos(t *testing.T) {
	c := inputs(1)
	c.Constraints, c.Justice = []int{2}, [][]int{{0}, nil}
	for at := range 4 {
		for loop := -1; loop < 4; loop++ {
			tr := bits("", strings.Repeat("1", at)+"0"+strings.Repeat("1", 3-at))
			tr.Loop = loop
			justice(t, c, 0, tr, at, api.ErrBroken)
			justice(t, c, 1, tr, at, api.ErrBroken)
		}
	}
	// A step behind the last one is not asked, whether it would hold or not.
	d := following(1)
	d.Latches[0].Reset, d.Constraints, d.Justice = 0, []int{5}, [][]int{nil}
	justice(t, d, 0, bits("0", "01"), 1, api.ErrOpen)
	closed := bits("0", "00")
	closed.Loop = 0
	justice(t, d, 0, closed, 0, api.OK)
}

// 13.2: several properties: each by its number, the first one and the last one too; those beside them are none.
func TestNumbersOfJustice(t *testing.T) {
	c := turning([]int{2}, []int{0}, nil, []int{3, 0}, []int{2, 3})
	for j, want := range []answer{{}, {e: api.ErrUnfair}, {}, {at: 1, e: api.ErrUnfair}, {}} {
		justice(t, c, j, empty("0", 2, 0), want.at, want.e)
	}
	for _, j := range []int{-1, 5, 6, math.MinInt, math.MaxInt, api.MaxItems} {
		justice(t, c, j, empty("0", 2, 0), 0, api.ErrNone)
	}
	c.Justice = make([][]int, api.MaxItems)
	c.Justice[0], c.Justice[api.MaxItems-1] = []int{2, 0}, []int{0}
	for j, want := range map[int]answer{0: {at: 1, e: api.ErrUnfair}, 1: {}, api.MaxItems - 2: {}, api.MaxItems - 1: {e: api.ErrUnfair}} {
		justice(t, c, j, empty("0", 2, 0), want.at, want.e)
	}
	justice(t, c, api.MaxItems, empty("0", 2, 0), 0, api.ErrNone)
}

// 13.2: as many literals and as much fairness as there may be, of which one lacks, the first, the last, one at the border of both, or none.
func TestMostMustCome(t *testing.T) {
	c := turning(slices.Repeat([]int{2, 3}, api.MaxItems/2))
	c.Fairness = slices.Repeat([]int{3, 1}, api.MaxItems/2)
	for _, at := range []int{0, 1, api.MaxItems - 1, api.MaxItems, 2*api.MaxItems - 1} {
		list, i := c.Justice[0], at
		if at >= api.MaxItems {
			list, i = c.Fairness, at-api.MaxItems
		}
		was := list[i]
		list[i] = 0
		justice(t, c, 0, empty("0", 6, 2), at, api.ErrUnfair)
		list[i] = was
	}
	justice(t, c, 0, empty("0", 6, 2), 2, api.OK)
}
