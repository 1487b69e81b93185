package hash_test

import (
	"testing"

	"trestle/api"
)

// almost is both with room for so many more variables.
func almost(t *testing.T, room int) both {
	t.Helper()
	return beginBoth(t, api.MaxVar/2, api.MaxVar/2-room)
}

// 9.2: with room for less gates than a call makes it answers ErrLong; those that were made ahead stay, and are found by later calls.
func TestRoomForAPart(t *testing.T) {
	const first = 2*api.MaxVar + 2 // the literal behind the last one
	b := almost(t, 0).b
	refuses(t, b, api.ErrLong, 0, "And", 2, 4)
	refuses(t, b, api.ErrLong, 0, "Or", 2, 4)
	refuses(t, b, api.ErrLong, 0, "Xor", 2, 4)
	refuses(t, b, api.ErrLong, 0, "Mux", 2, 4, 6)
	b = almost(t, 1).b
	refuses(t, b, api.ErrLong, 1, "Xor", 2, 4)
	hasGates(t, b, first-2, [2]int{4, 2})
	makes(t, b, first-2, 1, "And", 2, 4)
	refuses(t, b, api.ErrLong, 1, "And", 3, 5)
	refuses(t, b, api.ErrLong, 1, "Or", 2, 4)
	makes(t, b, first-1, 1, "Or", 3, 5)
	b = almost(t, 2).b
	refuses(t, b, api.ErrLong, 2, "Xor", 2, 4)
	refuses(t, b, api.ErrLong, 2, "Xor", 2, 4)
	hasGates(t, b, first-4, [2]int{4, 2}, [2]int{5, 3})
	makes(t, b, first-1, 2, "Or", 2, 4)
	b = almost(t, 3).b
	makes(t, b, first-2, 3, "Xor", 2, 4)
	makes(t, b, first-2, 3, "Xor", 4, 2)
	refuses(t, b, api.ErrLong, 3, "Xor", 2, 6)
	b = almost(t, 1).b
	refuses(t, b, api.ErrLong, 1, "Mux", 2, 4, 6)
	makes(t, b, first-2, 1, "And", 2, 4)
	b = almost(t, 2).b
	refuses(t, b, api.ErrLong, 2, "Mux", 2, 4, 6)
	hasGates(t, b, first-4, [2]int{4, 2}, [2]int{6, 3})
	b = almost(t, 3).b
	makes(t, b, first-1, 3, "Mux", 2, 4, 6)
}

// 9.2: room is taken by gates alone that are new: what is trivial, or there already, takes none, but makes none for another one.
func TestRoomForNewGates(t *testing.T) {
	const first = 2*api.MaxVar + 2
	b := almost(t, 1).b
	makes(t, b, first-2, 1, "And", 3, 6)
	refuses(t, b, api.ErrLong, 1, "Mux", 2, 4, 6)
	hasGates(t, b, first-2, [2]int{6, 3})
	b = almost(t, 1).b
	makes(t, b, first-2, 1, "Mux", 2, 0, 6)
	b = almost(t, 2).b
	makes(t, b, first-1, 2, "Mux", 2, 1, 6) // 2 itself; 6 and 3; Or of both
	hasGates(t, b, first-4, [2]int{6, 3}, [2]int{first - 3, 3})
}

// 9.2: what makes no gate is answered whether there is room or not.
func TestFullBuilders(t *testing.T) {
	b := almost(t, 0).b
	const last = 2 * api.MaxVar
	for _, l := range []int{0, 1, 2, 3, api.MaxVar, last, last + 1} {
		makes(t, b, 0, 0, "And", l, 0)
		makes(t, b, l, 0, "And", 1, l)
		makes(t, b, l, 0, "And", l, l)
		makes(t, b, 1, 0, "Or", l, not(l))
		makes(t, b, not(l), 0, "Xor", 1, l)
		makes(t, b, l, 0, "Mux", 1, l, 4)
		makes(t, b, l, 0, "Mux", 0, 4, l)
		makes(t, b, not(l), 0, "Mux", l, 0, 1)
	}
	// A literal that it has not is told ahead of the gate that there is no room for.
	for _, l := range []int{-1, last + 2, last + 3} {
		for _, c := range calls() {
			refuses(t, b, api.ErrNone, 0, c.name, []int{2, l, 4}[:c.takes]...)
			refuses(t, b, api.ErrNone, 0, c.name, []int{l, 2, 4}[:c.takes]...)
		}
		refuses(t, b, api.ErrNone, 0, "Mux", 2, 4, l)
	}
	one := almost(t, 1).b
	for _, l := range []int{-1, last, last + 1} {
		refuses(t, one, api.ErrNone, 0, "Mux", 2, 4, l)
	}
}

// 9.2: each call with each number of variables that is almost the greatest, then each other one.
func TestAlmostFull(t *testing.T) {
	long := 0
	for room := range 6 {
		for _, c := range calls() {
			for _, d := range calls() {
				for _, lits := range [][]int{{2, 4, 6}, {3, 5, 2*api.MaxVar - 20}, {4, 2, 0}, {2*api.MaxVar - 20, 2, 4}, {7, 1, 5}, {2, 4, 2 * api.MaxVar}} {
					x := almost(t, room)
					x.agree(t, c, []int{2, 4, 6}[:c.takes]...)
					if _, e := x.agree(t, d, lits[:d.takes]...); e == api.ErrLong {
						long++
					}
					x.agree(t, c, []int{2, 4, 6}[:c.takes]...)
				}
			}
		}
	}
	if long < 50 {
		t.Errorf("%d were refused", long)
	}
}

// 9.2: as many gates as there may be, and one more; all are found again.
func TestMostGates(t *testing.T) {
	for _, x := range [][2]int{{2, 0}, {0, 2}, {1, 1}, {5, 4}} {
		b := begin(t, x[0], x[1])
		most := api.MaxVar - x[0] - x[1]
		out := func(i int) int { return 2*(x[0]+x[1]+i) + 2 }
		tell := func(i, size int) {
			t.Helper()
			two := [...]int{2, 4}
			if i > 0 {
				two[0] = out(i-1) + i%2
			}
			makes(t, b, out(i), size, "And", two[i%2], two[1-i%2])
		}
		for i := range most {
			tell(i, i+1)
		}
		refuses(t, b, api.ErrLong, most, "And", 3, 5)
		refuses(t, b, api.ErrLong, most, "Or", 2, 2*api.MaxVar)
		for i := range most {
			tell(i, most)
		}
		if g := b.Gates(); len(g) != most || g[most-1].Out != 2*api.MaxVar {
			t.Errorf("%d gates, the last one %v", len(g), g[len(g)-1])
		}
		if _, e := b.And(2*api.MaxVar+2, 2); e != api.ErrNone {
			t.Errorf("%v", e)
		}
	}
}
