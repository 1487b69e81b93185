package sim_test

import (
	"testing"

	"trestle/api"
	"trestle/samples"
)

// 7.2: all states of latches with all resets: 0, 1, and their own literals.
func TestStarts(t *testing.T) {
	resets := func(lit int) []int { return []int{0, 1, lit} }
	// Of each reset whether the latch may begin with false, and with true.
	may := [3][2]bool{{true, false}, {false, true}, {true, true}}
	for n := range 27 {
		of := [3]int{n % 3, n / 3 % 3, n / 9}
		c := api.Circuit{Max: 4, Inputs: []int{4}}
		for i, lit := range [3]int{8, 2, 6} {
			c.Latches = append(c.Latches, api.Latch{Lit: lit, Next: 1, Reset: resets(lit)[of[i]]})
		}
		for _, state := range allTruths(3) {
			want := true
			for i, is := range state {
				k := 0
				if is {
					k = 1
				}
				want = want && may[of[i]][k]
			}
			starts(t, c, state, want)
		}
	}
}

// 7.2: whether a state may begin hangs on resets alone, not on what comes of it.
func TestStartsAlone(t *testing.T) {
	c := turning()
	starts(t, c, samples.Bits("0"), true)
	starts(t, c, samples.Bits("1"), false)
	c.Constraints = []int{0, 3, 2}
	starts(t, c, samples.Bits("0"), true)
	c.Latches[0] = api.Latch{Lit: 2, Next: 0, Reset: 1}
	starts(t, c, samples.Bits("1"), true)
	starts(t, c, samples.Bits("0"), false)
	starts(t, api.Circuit{Max: 2, Inputs: []int{2, 4}}, nil, true)
}
