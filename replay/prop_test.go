package replay_test

import (
	"math"
	"slices"
	"strings"
	"testing"

	"trestle/api"
	"trestle/samples"
)

// 13.3: properties of both kinds, of each number, and all that are none: any byte as a kind, numbers beside the first and the last one.
func TestProps(t *testing.T) {
	c := turning([]int{2}, []int{0})
	c.Bads = []int{2, 3, 0}
	tr := empty("0", 2, 0)
	want := map[api.Prop]answer{
		{Kind: 'b', At: 0}: {at: 1}, {Kind: 'b', At: 1}: {at: 1, e: api.ErrMissed}, {Kind: 'b', At: 2}: {at: 1, e: api.ErrMissed}, {Kind: 'j', At: 0}: {}, {Kind: 'j', At: 1}: {e: api.ErrUnfair},
	}
	for kind := range 256 {
		for _, at := range []int{-1, 0, 1, 2, 3, 4, 5, api.MaxItems, math.MinInt, math.MaxInt} {
			p := api.Prop{Kind: byte(kind), At: at}
			a, ok := want[p]
			if !ok {
				a = answer{e: api.ErrNone}
			}
			answers(t, p, some("Prop"), c, given{p: p, tr: tr}, a)
			if !ok {
				refuse(t, p, some("Prop"), c, given{p: p, tr: api.Trace{Loop: 7}}, api.ErrNone)
			}
		}
	}
}

// 13.3: where there is but the one kind, the other one's numbers are none.
func TestPropsOfOneKind(t *testing.T) {
	onlyBad, onlyJustice := api.Circuit{Bads: []int{1}}, api.Circuit{Justice: [][]int{nil}}
	tr := empty("", 3, 1)
	bad(t, onlyBad, 0, tr, 2, api.OK)
	justice(t, onlyBad, 0, tr, 0, api.ErrNone)
	justice(t, onlyJustice, 0, tr, 1, api.OK)
	bad(t, onlyJustice, 0, tr, 0, api.ErrNone)
	bad(t, api.Circuit{}, 0, tr, 0, api.ErrNone)
	justice(t, api.Circuit{}, 0, tr, 0, api.ErrNone)
}

// 13.3: bads in no step, several in one, one in several, the same one twice, all of them; rising, whatever the order in which they come.
func TestReached(t *testing.T) {
	c := inputs(3)
	for _, x := range []struct {
		bads []int
		rows []string
		want []int
	}{
		{nil, []string{"111"}, nil}, {[]int{0}, []string{"000", "111"}, nil}, {[]int{2, 4, 6}, []string{"000"}, nil}, {[]int{2, 4, 6}, []string{"111"}, []int{0, 1, 2}}, {[]int{2, 4, 6}, []string{"101"}, []int{0, 2}},
		{[]int{2, 4, 6}, []string{"001", "010", "100"}, []int{0, 1, 2}}, {[]int{2, 4, 6}, []string{"001", "000", "001"}, []int{2}}, {[]int{2, 4, 6}, []string{"010", "000", "000"}, []int{1}},
		{[]int{2, 4, 6}, []string{"000", "100", "000"}, []int{0}}, {[]int{2, 4, 6}, []string{"000", "000", "110"}, []int{0, 1}}, {[]int{4, 4, 2, 4}, []string{"010", "010"}, []int{0, 1, 3}},
		{[]int{1, 0, 3, 2}, []string{"000"}, []int{0, 2}}, {[]int{3, 2, 0, 1}, []string{"100", "000"}, []int{0, 1, 3}}, {[]int{0, 0, 0, 7}, []string{"001", "000"}, []int{3}},
	} {
		c.Bads = x.bads
		reached(t, c, samples.Told(-1, "", x.rows...), x.want...)
	}
}

// 13.3: of traces of one step and more, what is reached by counting.
func TestReachedByCounting(t *testing.T) {
	c := counting()
	c.Bads = []int{0, 4, 2, 8, 3, 6}
	for n, want := range map[int][]int{1: {4}, 2: {2, 4, 5}, 3: {1, 2, 3, 4, 5}, 4: {1, 2, 3, 4, 5}, 5: {1, 2, 3, 4, 5}, api.MaxFrames: {1, 2, 3, 4, 5}} {
		reached(t, c, empty("00", n, -1), want...)
	}
	// Loop changes nothing, where it may be.
	for loop := range 2 {
		reached(t, c, empty("00", 2, loop), 2, 4, 5)
	}
}

// 13.3: in the first step of as many as there may be alone, in a middle one, in the last one.
func TestReachedInOneStep(t *testing.T) {
	c := inputs(1)
	c.Bads = []int{2}
	for _, n := range lengths() {
		reached(t, c, bits("", strings.Repeat("0", n)))
		for _, at := range []int{0, n / 2, n - 1} {
			reached(t, c, bits("", strings.Repeat("0", at)+"1"+strings.Repeat("0", n-1-at)), 0)
		}
	}
}

// 13.3: as many bads as there may be: all, none, the first and the last one.
func TestMostReached(t *testing.T) {
	c := turning()
	c.Bads = slices.Repeat([]int{2}, api.MaxItems)
	reached(t, c, empty("0", 1, -1))
	all := make([]int, api.MaxItems)
	for i := range all {
		all[i] = i
	}
	reached(t, c, empty("0", 2, -1), all...)
	c.Bads[0], c.Bads[api.MaxItems-1] = 3, 1
	reached(t, c, empty("0", 1, -1), 0, api.MaxItems-1)
	c.Bads[0], c.Bads[api.MaxItems-1] = 0, 0
	reached(t, c, empty("0", 2, -1), all[1:api.MaxItems-1]...)
}
