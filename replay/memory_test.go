package replay_test

import (
	"slices"
	"testing"

	"trestle/api"
	"trestle/samples"
	"trestle/shape"
)

// cloned is the same answer of a new list.
func (a answer) cloned() answer { return answer{a.at, slices.Clone(a.list), a.e} }

// asked is circuits, right and wrong ones, and what is handed in beside them, of which some is taken, and each thing that can be wrong comes.
func asked() ([]api.Circuit, []given) {
	busy := samples.Right()
	busy.Symbols = nil
	busy.Bads, busy.Constraints, busy.Justice, busy.Fairness = []int{1, 18, 3, 1}, []int{9, 1}, [][]int{{6, 1}, {1}, nil, {0}}, []int{1, 7}
	busy.Latches[0].Next = 6
	c := following(1)
	c.Bads, c.Justice = []int{4, 5, 0}, [][]int{{4}, {2, 5}, nil, {0}}
	circuits := []api.Circuit{busy, samples.Right(), c, turning([]int{2}, nil), {Max: 3, Inputs: []int{2, 4}, Justice: [][]int{nil, {1}}}, {}}
	for _, f := range samples.Faults() {
		circuits = append(circuits, f.Circuit())
	}
	var all []given
	for _, tr := range []api.Trace{
		samples.Told(0, "010", "01"), samples.Told(1, "010", "01", "01", "01"), samples.Told(-1, "110", "01", "11"), samples.Told(-1, "000", "01"), samples.Told(5, "010", "01"),
		bits("0", "1"), bits("1", "00"), samples.Told(0, "1", "0", "1", "1"), samples.Told(2, "0", "1", "1", "1"), empty("0", 2, 0), empty("0", 3, 1), empty("1", 1, -1), samples.Told(0, "", "10"), empty("", 3, 2), {},
	} {
		for i := range 4 {
			all = append(all, given{i: i, p: api.Prop{Kind: 'b', At: i}, tr: tr}, given{i: i, p: api.Prop{Kind: 'j', At: i}, tr: tr})
		}
	}
	return circuits, all
}

// R4, R7: what is handed in is not changed, spare room too, nor read behind its length; what was told is the caller's own, and is told the same the next time.
func TestMemory(t *testing.T) {
	circuits, all := asked()
	told := map[string]int{}
	for _, x := range circuits {
		for _, y := range all {
			for _, ask := range calls() {
				want := ask.of(x, y).cloned()
				for _, by := range []bool{false, true} {
					c, g := samples.Guarded(x), y
					g.tr = samples.GuardedTrace(y.tr, by)
					was, wasTrace := samples.Whole(c), samples.WholeTrace(g.tr)
					first, second := ask.of(c, g), ask.of(c, g)
					samples.Fill(second.list, 99)
					if !shape.Same(samples.Whole(c), was) || !samples.SameTrace(samples.WholeTrace(g.tr), wasTrace) {
						t.Fatalf("%s of %s: changed what was handed in", ask.name, brief(x, y))
					}
					third := ask.of(c, g)
					samples.Spoil(c)
					samples.FlipTrace(g.tr)
					if !first.same(want) || !third.same(want) {
						t.Fatalf("%s of %s: %s, then %s, want %s", ask.name, brief(x, y), brief(first), brief(third), brief(want))
					}
				}
				if want.e == api.OK && (want.at > 0 || len(want.list) > 1) {
					told[ask.name]++
				}
			}
		}
	}
	for _, ask := range calls() {
		if told[ask.name] < 8 {
			t.Errorf("%s answered but %d times", ask.name, told[ask.name])
		}
	}
}

// R4: what Reached tells shares no memory with the circuit's bads, also where all of them are told as they stand.
func TestReachedIsNew(t *testing.T) {
	c := api.Circuit{Bads: []int{1, 1, 1, 1}}
	reached(t, c, empty("", 1, -1), 0, 1, 2, 3)
	for _, ask := range some("Reached") {
		samples.Fill(ask.of(c, given{tr: empty("", 1, -1)}).list, 99)
	}
	if !slices.Equal(c.Bads, []int{1, 1, 1, 1}) {
		t.Errorf("changed what was handed in: %v", c.Bads)
	}
	reached(t, c, empty("", 1, -1), 0, 1, 2, 3)
}

// R4: a trace, and a circuit, whose lists share memory with one another are read as any.
func TestSharedMemory(t *testing.T) {
	truths, literals := samples.Bits("1011"), []int{2, 1, 2, 1}
	c := following(2)
	c.Bads, c.Constraints, c.Justice, c.Fairness = literals, literals[1:2], [][]int{literals, literals[:1], literals}, literals[1:]
	tr := api.Trace{Init: truths[:2], Inputs: [][]bool{truths[:2], truths[1:3], truths[:2], truths[2:]}, Loop: 0}
	for loop := -1; loop < 4; loop++ {
		tr.Loop = loop
		for i := range 4 {
			asWords(t, c, given{i: i, p: api.Prop{Kind: 'j', At: i}, tr: tr})
		}
	}
	if !slices.Equal(truths, samples.Bits("1011")) || !slices.Equal(literals, []int{2, 1, 2, 1}) {
		t.Errorf("changed what was handed in: %v, %v", truths, literals)
	}
}

// R3: lists that are nil and lists that are empty are the same.
func TestEmptyLists(t *testing.T) {
	bare := api.Circuit{Bads: []int{1}, Justice: [][]int{nil, {}}}
	full := api.Circuit{
		Inputs: []int{}, Latches: []api.Latch{}, Outputs: []int{}, Bads: []int{1}, Constraints: []int{}, Justice: [][]int{{}, nil}, Fairness: []int{}, Ands: []api.And{}, Symbols: []api.Symbol{}, Comments: []string{},
	}
	for _, c := range []api.Circuit{bare, full} {
		for _, tr := range []api.Trace{{Inputs: make([][]bool, 3), Loop: 1}, {Init: []bool{}, Inputs: [][]bool{{}, nil, {}}, Loop: 1}} {
			bad(t, c, 0, tr, 2, api.OK)
			justice(t, c, 0, tr, 1, api.OK)
			justice(t, c, 1, tr, 1, api.OK)
			reached(t, c, tr, 0)
			doesNotFit(t, c, api.Trace{Init: tr.Init, Inputs: tr.Inputs[:0], Loop: -1})
		}
	}
}
