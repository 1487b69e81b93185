package sweep_test

import (
	"slices"
	"testing"

	"trestle/api"
	"trestle/samples"
	"trestle/shape"
)

// cloned is the same answer of new lists.
func (a answer) cloned() answer {
	return answer{c: shape.Copy(a.c), m: slices.Clone(a.m), tr: samples.GuardedTrace(a.tr, false), e: a.e}
}

// spoil writes over all that belongs to an answer's lists.
func (a answer) spoil() {
	samples.Spoil(a.c)
	samples.Fill(a.m, 99)
	samples.FlipTrace(a.tr)
}

// asked is circuits, right and wrong ones, and traces, which fit what some of them are swept to.
func asked() ([]api.Circuit, []api.Trace) {
	named := several()
	named.Symbols = []api.Symbol{{Kind: 'l', At: 3, Name: "d"}, {Kind: 'l', At: 5, Name: "f"}, {Kind: 'i', At: 0, Name: "i"}}
	named.Outputs, named.Justice, named.Comments = []int{18, 9}, [][]int{{12, 14}, nil, {2}}, []string{"c"}
	circuits := []api.Circuit{samples.Right(), several(), named, gatedPairs(3), settlers(2), {Max: 3, Inputs: []int{2, 4}}, {}}
	for _, f := range samples.Faults() {
		circuits = append(circuits, f.Circuit())
	}
	return circuits, append(wrongAnyway(), samples.Told(0, "1", "1", "0"), samples.Told(-1, "", "01"), samples.Told(-1, "", ""), samples.Told(1, "101", "11", "00", "10"))
}

// R4, R7: what is handed in is not changed, spare room too, nor read behind its length; an answer shares no memory with it, nor with another answer, and is the same the next time.
func TestMemory(t *testing.T) {
	circuits, traces := asked()
	told := map[string]int{}
	for _, x := range circuits {
		for _, y := range traces {
			for _, ask := range calls() {
				want := ask.of(x, y).cloned()
				for _, by := range []bool{false, true} {
					c, tr := samples.Guarded(x), samples.GuardedTrace(y, by)
					was, wasTrace := samples.Whole(c), samples.WholeTrace(tr)
					first, second := ask.of(c, tr), ask.of(c, tr)
					second.spoil()
					if !shape.Same(samples.Whole(c), was) || !samples.SameTrace(samples.WholeTrace(tr), wasTrace) {
						t.Fatalf("%s of %s: changed what was handed in", ask.name, brief(x, y))
					}
					third := ask.of(c, tr)
					samples.Spoil(c)
					samples.FlipTrace(tr)
					if !first.same(want) || !third.same(want) {
						t.Fatalf("%s of %s: %s, then %s, want %s", ask.name, brief(x, y), brief(first), brief(third), brief(want))
					}
				}
				if want.e == api.OK {
					told[ask.name]++
				}
			}
		}
	}
	for _, ask := range calls() {
		if told[ask.name] < 10 {
			t.Errorf("%s answered but %d times", ask.name, told[ask.name])
		}
	}
}

// R4: no two lists of one answer share memory, spare room too, also where those that were handed in do.
func TestListsOfOneAnswer(t *testing.T) {
	one := []int{2, 4, 4, 2}
	c := api.Circuit{
		Max: 4, Inputs: one[:2], Latches: latches(6, [2]int{2, 0}, [2]int{2, 0}), Outputs: one, Bads: one[1:], Constraints: one[1:3], Justice: [][]int{one, one[:1], one}, Fairness: one,
	}
	n, m := swept(t, c)
	lists := append(samples.Lists(n), m[:cap(m)])
	for i, l := range lists {
		samples.Fill(l, 100+i)
	}
	for i, l := range lists {
		if slices.ContainsFunc(l, func(x int) bool { return x != 100+i }) {
			t.Errorf("the list %d is shared: %v", i, l)
		}
	}
	if !slices.Equal(one, []int{2, 4, 4, 2}) {
		t.Errorf("changed what was handed in: %v", one)
	}
}

// R4: no two lists of one trace share memory, spare room too, also where those that were handed in do.
func TestListsOfOneTrace(t *testing.T) {
	one := samples.Bits("1")
	c := api.Circuit{Max: 2, Inputs: []int{2}, Latches: latches(4, [2]int{2, 0})}
	tr := traceBy(t, c, api.Trace{Init: one, Inputs: [][]bool{one, one, one}, Loop: -1})
	lists := append([][]bool{tr.Init}, tr.Inputs...)
	for i, l := range lists {
		kept := samples.GuardedTrace(tr, false)
		samples.Flip(l)
		for k, other := range append([][]bool{kept.Init}, kept.Inputs...) {
			if k != i && !slices.Equal(lists[k], other) {
				t.Errorf("the lists %d and %d share memory", i, k)
			}
		}
	}
	if !slices.Equal(one, samples.Bits("1")) {
		t.Errorf("changed what was handed in: %v", one)
	}
}

// R3: lists that are nil and lists that are empty are the same.
func TestEmptyLists(t *testing.T) {
	empty := api.Circuit{
		Inputs: []int{}, Latches: []api.Latch{}, Outputs: []int{}, Bads: []int{}, Constraints: []int{}, Justice: [][]int{}, Fairness: []int{}, Ands: []api.And{}, Symbols: []api.Symbol{}, Comments: []string{},
	}
	sweeps(t, empty, api.Circuit{}, 0)
	sweeps(t, api.Circuit{}, empty, 0)
	goesBack(t, empty, api.Trace{Init: []bool{}, Inputs: [][]bool{{}, nil}, Loop: 1}, samples.Told(1, "", "", ""))
	goesBack(t, api.Circuit{Max: 1, Latches: latches(2, [2]int{2, 0})}, api.Trace{Inputs: [][]bool{nil, {}}}, samples.Told(0, "0", "", ""))
}
