package frames_test

import (
	"math/rand"
	"slices"
	"testing"

	"trestle/api"
	"trestle/samples"
)

// 16.2: the chapter's examples, and the circuit's other steps.
func TestClausesByExample(t *testing.T) {
	tells(t, "First", turning(), 0, api.Clause{-2})
	tells(t, "Next", turning(), 0, api.Clause{-3, -2}, api.Clause{3, 2})
	tells(t, "Next", turning(), 510, api.Clause{-513, -512}, api.Clause{513, 512})
	for _, step := range []int{0, 1, 510, 511} {
		tells(t, "Step", turning(), step)
	}
}

// 16.2: circuits of no variable, of no gate, no latch, no input, and of variables that nothing defines: what they have not has no clauses.
func TestClausesOfBareCircuits(t *testing.T) {
	for _, c := range []api.Circuit{{}, {Max: 1}, {Max: 7, Bads: []int{0, 1}, Justice: [][]int{{1}}, Fairness: []int{0}, Outputs: []int{1}}, {Max: 2, Inputs: []int{4}}} {
		for _, step := range []int{0, 1, 510} {
			tells(t, "Step", c, step)
			tells(t, "Next", c, step)
		}
		tells(t, "First", c, 0)
	}
	gates := api.Circuit{Max: 3, Ands: []api.And{{Out: 6, Left: 1, Right: 1}}}
	tells(t, "Step", gates, 2, api.Clause{-10, -1}, api.Clause{-10, -1}, api.Clause{10, 1, 1})
	tells(t, "Next", gates, 2)
	tells(t, "First", gates, 0)
	latches := api.Circuit{Max: 5, Latches: []api.Latch{{Lit: 8, Next: 8, Reset: 8}}}
	tells(t, "Step", latches, 1)
	tells(t, "Next", latches, 1, api.Clause{-15, 10}, api.Clause{15, -10})
	tells(t, "First", latches, 0)
	limits := api.Circuit{Max: 1, Constraints: []int{0, 1, 1, 0}}
	tells(t, "Step", limits, 7, api.Clause{1}, api.Clause{-1}, api.Clause{-1}, api.Clause{1})
	tells(t, "Next", limits, 7)
	tells(t, "First", limits, 0)
}

// 16.2: gates and latches whose literals are the same, contrary, 0 or 1: no clause is left out, and none is made shorter.
func TestTrivialClauses(t *testing.T) {
	// The literals 0 to 5 at the step 1, and at the step 2.
	now, then := []int{1, -1, 4, -4, 5, -5}, []int{1, -1, 6, -6, 7, -7}
	for left := range 6 {
		for right := range 6 {
			// A gate can't use itself.
			if left/2 != 2 && right/2 != 2 {
				c := api.Circuit{Max: 2, Inputs: []int{2}, Ands: []api.And{{Out: 4, Left: left, Right: right}}}
				l, r := now[left], now[right]
				tells(t, "Step", c, 1, api.Clause{-5, l}, api.Clause{-5, r}, api.Clause{5, -l, -r})
			}
			c := api.Circuit{Max: 2, Latches: []api.Latch{{Lit: 4, Next: left}, {Lit: 2, Next: right, Reset: 1}}, Constraints: []int{left, right, left}}
			tells(t, "Step", c, 1, api.Clause{now[left]}, api.Clause{now[right]}, api.Clause{now[left]})
			tells(t, "Step", c, 2, api.Clause{then[left]}, api.Clause{then[right]}, api.Clause{then[left]})
			l, r := now[left], now[right]
			tells(t, "Next", c, 1, api.Clause{-7, l}, api.Clause{7, -l}, api.Clause{-6, r}, api.Clause{6, -r})
			tells(t, "First", c, 0, api.Clause{-3}, api.Clause{2})
		}
	}
}

// 16.2: resets to 0, to 1 and to the latch itself, of three latches, in any order of their variables.
func TestResets(t *testing.T) {
	for _, resets := range samples.AllLists(3, 0, 1, 2) {
		for _, lits := range [][]int{{2, 4, 6}, {6, 2, 4}, {4, 6, 2}} {
			c := api.Circuit{Max: 4}
			var want []api.Clause
			for i, reset := range resets {
				l := lits[i]
				x := l/2 + 1
				switch reset {
				case 0:
					want = append(want, api.Clause{-x})
				case 1:
					want = append(want, api.Clause{x})
				default:
					reset = l
				}
				c.Latches = append(c.Latches, api.Latch{Lit: l, Next: 2, Reset: reset})
			}
			tells(t, "First", c, 0, want...)
		}
	}
}

// 16.2: a circuit of all, laid out clause by clause: the gates in the order of Ands, the constraints behind them, the latches in their order.
func TestClausesByHand(t *testing.T) {
	c := stepping()
	tells(t, "First", c, 0, api.Clause{5}, api.Clause{-3})
	tells(t, "Step", c, 0,
		api.Clause{-8, -10}, api.Clause{-8, 2}, api.Clause{8, 10, -2}, api.Clause{-11, 10}, api.Clause{-11, 10}, api.Clause{11, -10, -10},
		api.Clause{-10, 5}, api.Clause{-10, -2}, api.Clause{10, -5, 2}, api.Clause{-7, -9}, api.Clause{-7, -3}, api.Clause{7, 9, 3}, api.Clause{-7}, api.Clause{-1})
	tells(t, "Step", c, 1,
		api.Clause{-18, -20}, api.Clause{-18, 12}, api.Clause{18, 20, -12}, api.Clause{-21, 20}, api.Clause{-21, 20}, api.Clause{21, -20, -20},
		api.Clause{-20, 15}, api.Clause{-20, -12}, api.Clause{20, -15, 12}, api.Clause{-17, -19}, api.Clause{-17, -13}, api.Clause{17, 19, 13}, api.Clause{-17}, api.Clause{-1})
	tells(t, "Next", c, 0, api.Clause{-15, 8}, api.Clause{15, -8}, api.Clause{-13, 9}, api.Clause{13, -9}, api.Clause{-16, -6}, api.Clause{16, 6})
	tells(t, "Next", c, 1, api.Clause{-25, 18}, api.Clause{25, -18}, api.Clause{-23, 19}, api.Clause{23, -19}, api.Clause{-26, -16}, api.Clause{26, 16})
}

// 16.2: all circuits of two variables, all of two gates, and circuits by chance, at any step.
func TestClausesByWords(t *testing.T) {
	r := rand.New(rand.NewSource(186))
	told := some("Step", "Next", "First")
	for _, c := range samples.TwoVariables() {
		asWords(t, told, c, given{step: r.Intn(5)})
	}
	for _, c := range samples.TwoGates() {
		asWords(t, told, c, given{step: r.Intn(5)})
	}
	for range 3000 {
		asWords(t, told, samples.Circuit(r.Intn), given{step: r.Intn(api.MaxFrames)})
	}
}

// 16.2, 16.3: with the gates, the constraints and the latches in another order the clauses are the same in that order.
func TestOrderOfClauses(t *testing.T) {
	r := rand.New(rand.NewSource(187))
	for range 1000 {
		c := samples.Circuit(r.Intn)
		step := r.Intn(3)
		other := samples.Clone(c)
		var gates, limits, latches []api.Clause
		was := stepOf(c, step)
		for i, k := range r.Perm(len(c.Ands)) {
			other.Ands[i] = c.Ands[k]
			gates = append(gates, was[3*k:3*k+3]...)
		}
		for i, k := range r.Perm(len(c.Constraints)) {
			other.Constraints[i] = c.Constraints[k]
			limits = append(limits, was[3*len(c.Ands)+k])
		}
		leads := nextOf(c, step)
		for i, k := range r.Perm(len(c.Latches)) {
			other.Latches[i] = c.Latches[k]
			latches = append(latches, leads[2*k:2*k+2]...)
		}
		tells(t, "Step", other, step, slices.Concat(gates, limits)...)
		tells(t, "Next", other, step, latches...)
		runs(t, other, step+1, runOf(other, step+1))
	}
}

// 16.2, 16.3: what is no gate, constraint or latch changes nothing: outputs, properties, symbols, comments, and which variables are inputs or nothing.
func TestWhatIsNotNamed(t *testing.T) {
	r := rand.New(rand.NewSource(188))
	for range 500 {
		c := samples.Circuit(r.Intn)
		only := api.Circuit{Max: c.Max, Latches: c.Latches, Constraints: c.Constraints, Ands: c.Ands, Inputs: looseOf(c)}
		only.Inputs = append(only.Inputs, c.Inputs...)
		for _, x := range some("Lit", "Vars", "Step", "Next", "First", "Run") {
			g := given{lit: r.Intn(2*c.Max + 2), step: r.Intn(4), steps: 1 + r.Intn(4)}
			if was, is := x.of(c, g), x.of(only, g); !was.same(is) || was.e != api.OK {
				t.Fatalf("%s of %s: %s, of %s: %s", x.name, brief(c, g), brief(was), brief(only), brief(is))
			}
		}
	}
}
