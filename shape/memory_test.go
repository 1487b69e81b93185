package shape_test

import (
	"slices"
	"testing"

	"trestle/api"
	"trestle/samples"
	"trestle/shape"
)

// calls is the calls of the package, each as one that answers a circuit and a list.
func calls() map[string]func(c api.Circuit) (api.Circuit, []int) {
	return map[string]func(c api.Circuit) (api.Circuit, []int){
		"Check": func(c api.Circuit) (api.Circuit, []int) {
			at, e := shape.Check(c)
			return api.Circuit{}, []int{at, int(e)}
		},
		"Order":    func(c api.Circuit) (api.Circuit, []int) { l, _ := shape.Order(c); return api.Circuit{}, l },
		"Renumber": func(c api.Circuit) (api.Circuit, []int) { n, m, _ := shape.Renumber(c); return n, m },
		"IsBinary": func(c api.Circuit) (api.Circuit, []int) { shape.IsBinary(c); return api.Circuit{}, nil },
		"Copy":     func(c api.Circuit) (api.Circuit, []int) { return shape.Copy(c), nil },
		"Same":     func(c api.Circuit) (api.Circuit, []int) { shape.Same(c, c); return api.Circuit{}, nil },
	}
}

// R4, R7: a circuit that is handed in is not changed, spare room too; an answer shares no memory with it, nor with another answer, and is the same the next time.
func TestMemory(t *testing.T) {
	list := []api.Circuit{samples.Right(), {}, {Max: 3, Inputs: []int{2, 4, 6}}}
	for _, f := range samples.Faults() {
		list = append(list, f.Circuit())
	}
	for _, x := range list {
		for name, ask := range calls() {
			c := samples.Guarded(x)
			was := samples.Whole(c)
			first, l := ask(c)
			kept, keptList := samples.Clone(first), slices.Clone(l)
			second, m := ask(c)
			samples.Spoil(second)
			samples.Fill(m, 99)
			sameCircuit(t, name+": what was handed in", samples.Whole(c), was)
			sameCircuit(t, name+": two answers", first, kept)
			third, n := ask(c)
			sameCircuit(t, name+": the third answer", third, kept)
			samples.Spoil(c)
			sameCircuit(t, name+": the answer and what was handed in", first, kept)
			if !slices.Equal(l, keptList) || !slices.Equal(n, keptList) {
				t.Fatalf("%s: %v, then %v", name, keptList, l)
			}
		}
	}
}

// R4: no two lists of one answer share memory, also where those that were handed in do.
func TestListsOfOneAnswer(t *testing.T) {
	one := []int{2, 4, 2, 4}
	c := api.Circuit{Max: 2, Inputs: one[:2], Outputs: one, Bads: one[2:], Constraints: one[1:2], Justice: [][]int{one, one[:1], one}, Fairness: one}
	for name, ask := range calls() {
		answer, m := ask(c)
		if name == "Renumber" && !slices.Equal(answer.Outputs, one) {
			t.Errorf("%s: %+v", name, answer)
		}
		lists := append(samples.Lists(answer), m[:cap(m)])
		for i, l := range lists {
			samples.Fill(l, 100+i)
		}
		for i, l := range lists {
			if slices.ContainsFunc(l, func(x int) bool { return x != 100+i }) {
				t.Errorf("%s: the list %d is shared: %v", name, i, l)
			}
		}
		if !slices.Equal(one, []int{2, 4, 2, 4}) {
			t.Fatalf("%s: changed what was handed in: %v", name, one)
		}
	}
	// Lists with one another's new literals: moved once each.
	swapped := []int{4, 2}
	n, _ := renumbered(t, api.Circuit{Max: 2, Inputs: swapped, Outputs: swapped, Justice: [][]int{swapped, swapped}})
	sameCircuit(t, "swapped", n, api.Circuit{Max: 2, Inputs: []int{2, 4}, Outputs: []int{2, 4}, Justice: [][]int{{2, 4}, {2, 4}}})
}
