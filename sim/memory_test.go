package sim_test

import (
	"slices"
	"testing"

	"trestle/api"
	"trestle/samples"
	"trestle/shape"
	"trestle/sim"
)

// answer is what a call told, each list with its spare room.
type answer struct {
	truths []bool
	runs   []api.Moment
	is     bool
	e      api.Errno
}

// call is a call of a circuit and a trace, of which the calls of a step take the first state and the first row.
type call func(c api.Circuit, tr api.Trace) answer

// calls is all calls of the package.
func calls() map[string]call {
	row := func(tr api.Trace) []bool {
		if len(tr.Inputs) == 0 {
			return nil
		}
		return tr.Inputs[0]
	}
	return map[string]call{
		"Values": func(c api.Circuit, tr api.Trace) answer {
			v, e := sim.Values(c, tr.Init, row(tr))
			return answer{truths: v, e: e}
		},
		"Next": func(c api.Circuit, tr api.Trace) answer {
			v, e := sim.Next(c, tr.Init, row(tr))
			return answer{truths: v, e: e}
		},
		"Holds": func(c api.Circuit, tr api.Trace) answer {
			is, e := sim.Holds(c, tr.Init, row(tr))
			return answer{is: is, e: e}
		},
		"Starts": func(c api.Circuit, tr api.Trace) answer {
			is, e := sim.Starts(c, tr.Init)
			return answer{is: is, e: e}
		},
		"Run": func(c api.Circuit, tr api.Trace) answer {
			m, e := sim.Run(c, tr)
			return answer{runs: m, e: e}
		},
	}
}

// cloned is the same answer of new lists.
func (a answer) cloned() answer {
	a.truths = slices.Clone(a.truths)
	a.runs = slices.Clone(a.runs)
	for i, m := range a.runs {
		m.State, m.Bads, m.Fair = slices.Clone(m.State), slices.Clone(m.Bads), slices.Clone(m.Fair)
		a.runs[i] = m
	}
	return a
}

// same tells whether two answers tell the same.
func (a answer) same(b answer) bool {
	return slices.Equal(a.truths, b.truths) && sameMoments(a.runs, b.runs) && a.is == b.is && a.e == b.e
}

// spoil writes over all that belongs to an answer's lists.
func (a answer) spoil() {
	samples.Flip(a.truths)
	for _, m := range a.runs {
		samples.Flip(m.State)
		samples.Fill(m.Bads, 99)
		samples.Fill(m.Fair, api.Spot{At: 99})
	}
	samples.Fill(a.runs, api.Moment{Holds: true})
}

// asked is circuits, right and wrong ones, and traces, which fit the right ones or do not.
func asked() ([]api.Circuit, []api.Trace) {
	busy := samples.Right()
	busy.Symbols = nil
	busy.Bads, busy.Constraints, busy.Justice, busy.Fairness = []int{1, 1, 6}, []int{1, 1}, [][]int{{1, 6}, {1}}, []int{1, 7}
	circuits := []api.Circuit{busy, samples.Right(), {Max: 3, Inputs: []int{2, 4}}, {}}
	for _, f := range samples.Faults() {
		circuits = append(circuits, f.Circuit())
	}
	return circuits, []api.Trace{
		{Init: samples.Bits("010"), Inputs: rows("01"), Loop: 0}, {Init: samples.Bits("111"), Inputs: rows("00", "11", "01"), Loop: -1}, {Inputs: rows("11", "10")},
		{Inputs: [][]bool{{}}}, {Init: samples.Bits("010"), Inputs: rows("01", "1"), Loop: 1}, {Init: samples.Bits("010"), Inputs: rows("1"), Loop: -1},
		{Init: samples.Bits("01"), Inputs: rows("01"), Loop: -1}, {Init: samples.Bits("010"), Inputs: rows("01"), Loop: 1}, {Init: samples.Bits("010"), Loop: -1}, {},
	}
}

// R4, R7: what is handed in is not changed, spare room too, nor read behind its length; an answer shares no memory with it, nor with another answer, and is the same the next time.
func TestMemory(t *testing.T) {
	circuits, traces := asked()
	told := map[string]int{}
	for _, x := range circuits {
		for _, y := range traces {
			for name, ask := range calls() {
				want := ask(x, y).cloned()
				for _, by := range []bool{false, true} {
					c, tr := samples.Guarded(x), samples.GuardedTrace(y, by)
					was, wasTrace := samples.Whole(c), samples.WholeTrace(tr)
					first, second := ask(c, tr), ask(c, tr)
					second.spoil()
					if !shape.Same(samples.Whole(c), was) || !samples.SameTrace(samples.WholeTrace(tr), wasTrace) {
						t.Fatalf("%s of %+v, %+v: changed what was handed in", name, x, y)
					}
					third := ask(c, tr)
					samples.Spoil(c)
					samples.FlipTrace(tr)
					if !first.same(want) || !third.same(want) {
						t.Fatalf("%s of %+v, %+v: %+v, then %+v, want %+v", name, x, y, first, third, want)
					}
				}
				if want.e == api.OK {
					told[name]++
				}
			}
		}
	}
	if len(told) != 5 {
		t.Errorf("answers but of %v", told)
	}
}

// R4: no two lists of one run share memory, spare room too, also where they tell the same.
func TestListsOfOneRun(t *testing.T) {
	row := samples.Bits("01")
	circuits, _ := asked()
	c := samples.Clone(circuits[0])
	for i, l := range c.Latches {
		c.Latches[i].Next = l.Lit
	}
	tr := api.Trace{Init: samples.Bits("101"), Inputs: [][]bool{row, row, row, row}, Loop: -1}
	m := run(t, c, tr)
	for i, x := range m {
		if !sameMoment(x, m[0]) || len(x.State)*len(x.Bads)*len(x.Fair) == 0 {
			t.Fatalf("the moment %d: %+v, want %+v", i, x, m[0])
		}
	}
	for i, x := range m {
		was := answer{runs: m}.cloned().runs
		answer{runs: []api.Moment{x}}.spoil()
		for k := range m {
			if k != i && !sameMoment(m[k], was[k]) {
				t.Errorf("the moments %d and %d share memory", i, k)
			}
		}
	}
	// Within one moment: places and spots are of other types than truths, and each other's.
	if !slices.Equal(tr.Init, samples.Bits("101")) || !slices.Equal(row, samples.Bits("01")) {
		t.Errorf("changed what was handed in: %v, %v", tr.Init, row)
	}
}

// R4: a trace whose lists share memory with one another is read as any.
func TestSharedTrace(t *testing.T) {
	one := samples.Bits("1011")
	c := samples.Right()
	tr := api.Trace{Init: one[:3], Inputs: [][]bool{one[:2], one[1:3], one[:2], one[2:]}, Loop: 3}
	runs(t, c, tr, runOf(c, tr))
	if !slices.Equal(one, samples.Bits("1011")) {
		t.Errorf("changed what was handed in: %v", one)
	}
}

// R3: lists that are nil and lists that are empty are the same.
func TestEmptyLists(t *testing.T) {
	empty := api.Circuit{
		Inputs: []int{}, Latches: []api.Latch{}, Outputs: []int{}, Bads: []int{}, Constraints: []int{}, Justice: [][]int{}, Fairness: []int{}, Ands: []api.And{}, Symbols: []api.Symbol{}, Comments: []string{},
	}
	filled := api.Trace{Init: []bool{}, Inputs: [][]bool{{}, nil}}
	for name, ask := range calls() {
		want := ask(api.Circuit{}, api.Trace{Inputs: make([][]bool, 2)})
		if got := ask(empty, filled); !got.same(want) || want.e != api.OK {
			t.Errorf("%s: %+v, want %+v", name, got, want)
		}
	}
}
