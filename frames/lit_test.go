package frames_test

import (
	"math"
	"math/rand"
	"testing"

	"trestle/api"
	"trestle/frames"
	"trestle/samples"
)

// literal holds Lit against the literal that is wanted.
func literal(t *testing.T, c api.Circuit, l, step, want int) {
	t.Helper()
	answers(t, some("Lit"), c, given{lit: l, step: step}, answer{n: want})
}

// count holds Vars against the number that is wanted.
func count(t *testing.T, c api.Circuit, steps, want int) {
	t.Helper()
	answers(t, some("Vars"), c, given{steps: steps}, answer{n: want})
}

// 16.1: the chapter's examples, and the variables of a circuit of three at its first steps.
func TestLitByExample(t *testing.T) {
	literal(t, turning(), 2, 3, 5)
	literal(t, turning(), 3, 3, -5)
	literal(t, turning(), 1, 3, -1)
	literal(t, turning(), 0, 3, 1)
	count(t, turning(), 2, 3)
	c := api.Circuit{Max: 3, Inputs: []int{4}}
	for step, all := range [][]int{{1, -1, 2, -2, 3, -3, 4, -4}, {1, -1, 5, -5, 6, -6, 7, -7}, {1, -1, 8, -8, 9, -9, 10, -10}} {
		for l, want := range all {
			literal(t, c, l, step, want)
		}
		count(t, c, step+1, 3*step+4)
	}
}

// 16.1: circuits of no variable have the literals 0 and 1 at all steps, and the formula one variable.
func TestLitOfNoVariable(t *testing.T) {
	for step := range api.MaxFrames {
		literal(t, api.Circuit{}, 0, step, 1)
		literal(t, api.Circuit{}, 1, step, -1)
		count(t, api.Circuit{}, step+1, 1)
	}
	for _, l := range []int{-2, -1, 2, 3} {
		refuse(t, some("Lit"), api.Circuit{}, given{lit: l}, api.ErrRange)
	}
}

// 16.1: the literals 0, 1, 2 Max and 2 Max + 1, whether anything defines these or not, at the first step, and at the last one that there may be; those just outside, and far from them, are refused at any step.
func TestLastLiterals(t *testing.T) {
	for _, most := range []int{1, 2, 3, 100, 511, 512, 513, 1024, api.MaxVar - 1, api.MaxVar} {
		c := api.Circuit{Max: most}
		steps := min(api.MaxFrames, (api.MaxCnf-1)/most)
		for _, step := range []int{0, 1, steps / 2, steps - 1} {
			literal(t, c, 0, step, 1)
			literal(t, c, 1, step, -1)
			literal(t, c, 2, step, 2+step*most)
			literal(t, c, 2*most, step, 1+(step+1)*most)
			literal(t, c, 2*most+1, step, -1-(step+1)*most)
			for _, l := range outside(most) {
				refuse(t, some("Lit"), c, given{lit: l, step: step}, api.ErrRange)
			}
		}
	}
}

// outside is numbers that are no literals of a circuit of that greatest variable.
func outside(most int) []int {
	return []int{
		-1, -2, -3, -2 * most, -2*most - 1, -2*most - 2, 2*most + 2, 2*most + 3, 4*most + 4, 2*api.MaxVar + 2, 2*api.MaxVar + 3, api.MaxNumber, math.MaxInt, math.MaxInt - 1, math.MinInt, math.MinInt + 1,
	}
}

// 16.1: of circuits by chance each literal at a few steps; the negated one is its contrary, but for 0 and 1 no two are alike, and together they are all variables of so many steps.
func TestLitByChance(t *testing.T) {
	r := rand.New(rand.NewSource(181))
	for range 300 {
		c, steps := samples.Circuit(r.Intn), 1+r.Intn(5)
		seen := map[int]int{}
		for step := range steps {
			for _, l := range samples.AllLiterals(c) {
				g := given{lit: l, step: step}
				asWords(t, some("Lit"), c, g)
				x, _ := frames.Lit(c, l, step)
				y, _ := frames.Lit(c, l^1, step)
				if x != -y {
					t.Fatalf("%+v: %+v is %d, negated %d", c, g, x, y)
				}
				seen[x]++
			}
		}
		vars, e := frames.Vars(c, steps)
		if e != api.OK || len(seen) != 2*vars {
			t.Fatalf("%+v: %d literals of %d variables, %v", c, len(seen), vars, e)
		}
		for x, times := range seen {
			if v := max(x, -x); v > vars || times != 1 && (v > 1 || times != steps) {
				t.Fatalf("%+v: of %d variables the literal %d, %d times", c, vars, x, times)
			}
		}
	}
}
