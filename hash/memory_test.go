package hash_test

import (
	"slices"
	"testing"

	"trestle/api"
	"trestle/hash"
	"trestle/samples"
	"trestle/shape"
)

// asked is circuits, right and wrong ones.
func asked() []api.Circuit {
	all := []api.Circuit{samples.Right(), {}, {Max: 3, Inputs: []int{2, 4, 6}}, {Max: 5, Inputs: []int{2, 4}, Ands: []api.And{{Out: 6, Left: 2, Right: 4}, {Out: 8, Left: 7, Right: 5}}}}
	for _, f := range samples.Faults() {
		all = append(all, f.Circuit())
	}
	return all
}

// R4, R7: a circuit that is handed in is not changed, spare room too; an answer shares no memory with it, nor with another answer, and is the same the next time.
func TestMemory(t *testing.T) {
	for _, x := range asked() {
		c := samples.Guarded(x)
		was := samples.Whole(c)
		first, m, e := hash.Build(c)
		kept, keptMap := samples.Clone(first), slices.Clone(m)
		second, k, _ := hash.Build(c)
		samples.Spoil(second)
		samples.Fill(k, 99)
		if !shape.Same(samples.Whole(c), was) {
			t.Fatalf("%+v: changed to %+v", was, samples.Whole(c))
		}
		third, l, f := hash.Build(c)
		samples.Spoil(c)
		if !shape.Same(first, kept) || !shape.Same(third, kept) || !slices.Equal(m, keptMap) || !slices.Equal(l, keptMap) || e != f {
			t.Fatalf("%+v: %+v, %v, %v, then %+v, %v, %v; want %+v, %v", x, first, m, e, third, l, f, kept, keptMap)
		}
	}
}

// R4: no two lists of one answer share memory, also where those that were handed in do.
func TestListsOfOneAnswer(t *testing.T) {
	one := []int{4, 2, 4, 2}
	c := api.Circuit{Max: 2, Inputs: one[:2], Outputs: one, Bads: one[2:], Constraints: one[1:2], Justice: [][]int{one, one[:1], one}, Fairness: one}
	answer, m := built(t, c)
	if !slices.Equal(answer.Outputs, []int{2, 4, 2, 4}) || !slices.Equal(m, []int{0, 4, 2}) {
		t.Errorf("%+v, %v", answer, m)
	}
	lists := append(samples.Lists(answer), m[:cap(m)])
	for i, l := range lists {
		samples.Fill(l, 100+i)
	}
	for i, l := range lists {
		if slices.ContainsFunc(l, func(x int) bool { return x != 100+i }) {
			t.Errorf("the list %d is shared: %v", i, l)
		}
	}
	if !slices.Equal(one, []int{4, 2, 4, 2}) {
		t.Errorf("changed what was handed in: %v", one)
	}
}

// R3: lists that are nil and lists that are empty are the same.
func TestEmptyLists(t *testing.T) {
	builds(t, api.Circuit{
		Inputs: []int{}, Latches: []api.Latch{}, Outputs: []int{}, Bads: []int{}, Constraints: []int{}, Justice: [][]int{}, Fairness: []int{}, Ands: []api.And{}, Symbols: []api.Symbol{}, Comments: []string{},
	}, api.Circuit{}, []int{0})
}

// R4: gates that were told are the caller's own: later ones change nothing of them; written over, spare room too, they change nothing of the builder, nor of what it told and tells elsewhere.
func TestGatesAreTheCallers(t *testing.T) {
	x := beginBoth(t, 2, 2)
	var told, kept [][]api.And
	ask := func(n int) {
		t.Helper()
		x.agree(t, call{"And", 2}, 10+n, 2+n%5)
		x.agree(t, call{"Xor", 2}, 4, 6+n%3)
	}
	for n := range 40 {
		ask(n)
		gates := x.b.Gates()
		told, kept = append(told, gates), append(kept, slices.Clone(gates))
	}
	for i, gates := range told {
		if !slices.Equal(gates, kept[i]) {
			t.Fatalf("%v were told, now these are %v", kept[i], gates)
		}
		samples.Fill(gates, api.And{Out: 2 * i, Left: 99})
		ask(i)
	}
	for n := range 60 {
		ask(n)
	}
}

// R4: two builders share nothing, nor do builders and what is built anew.
func TestBuildersAreApart(t *testing.T) {
	one, two := beginBoth(t, 2, 0), beginBoth(t, 2, 0)
	one.agree(t, call{"Xor", 2}, 2, 4)
	two.agree(t, call{"And", 2}, 5, 3)
	hash.Build(api.Circuit{Max: 3, Inputs: []int{2, 4}, Ands: []api.And{{Out: 6, Left: 5, Right: 2}}})
	two.agree(t, call{"Xor", 2}, 4, 2)
	one.agree(t, call{"And", 2}, 5, 2)
	one.agree(t, call{"Mux", 3}, 6, 8, 3)
	hasGates(t, two.b, 6, [2]int{5, 3}, [2]int{4, 2}, [2]int{9, 7})
}
