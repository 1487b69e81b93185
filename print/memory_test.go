package print_test

import (
	"math/rand"
	"slices"
	"testing"

	"trestle/api"
	"trestle/print"
	"trestle/samples"
	"trestle/shape"
)

// calls is all calls of the package, each as one of a circuit.
func calls() map[string]printer {
	all := printers()
	all["Head"] = func(c api.Circuit) (string, api.Errno) { return print.Head("aag", c) }
	all["Tail"] = func(c api.Circuit) (string, api.Errno) { return print.Tail(c.Symbols, c.Comments) }
	return all
}

// R4, R7: a circuit that is handed in, right or wrong, is not changed, spare room too, nor kept: the same call tells the same, and another circuit's its own.
func TestMemory(t *testing.T) {
	list := []api.Circuit{{}, samples.Right(), ordered(), binaryOf(t, samples.Right()), commented(api.MaxText + 1)}
	for _, f := range samples.Faults() {
		list = append(list, f.Circuit())
	}
	for _, x := range list {
		for name, call := range calls() {
			c := samples.Guarded(x)
			was := samples.Whole(c)
			first, e := call(c)
			if !shape.Same(samples.Whole(c), was) {
				t.Fatalf("%s changed what was handed in:\n%+v, was\n%+v", name, samples.Whole(c), was)
			}
			again, f := call(c)
			holds(t, name, again, f, first, e)
			samples.Spoil(c)
			call(c)
			again, f = call(x)
			holds(t, name, again, f, first, e)
		}
	}
}

// R3: lists that are nil and lists that are empty are the same.
func TestEmptyLists(t *testing.T) {
	empty := api.Circuit{
		Inputs: []int{}, Latches: []api.Latch{}, Outputs: []int{}, Bads: []int{}, Constraints: []int{}, Justice: [][]int{}, Fairness: []int{}, Ands: []api.And{}, Symbols: []api.Symbol{}, Comments: []string{},
	}
	for name, call := range calls() {
		want, code := call(api.Circuit{})
		s, e := call(empty)
		holds(t, name, s, e, want, code)
	}
}

// P1, R2: circuits by chance with any numbers in them: each call ends, and refuses just what layer 3 refuses of them.
func TestAnyNumbers(t *testing.T) {
	r := rand.New(rand.NewSource(67))
	seen := map[api.Errno]int{}
	for range 20000 {
		c := samples.AnyNumbers(r.Intn)
		_, want := shape.Check(c)
		seen[want]++
		for name, call := range calls() {
			s, e := call(c)
			switch {
			case name == "Tail":
				wrong := slices.ContainsFunc(c.Symbols, func(s api.Symbol) bool { return s.At < 0 || s.At >= api.MaxItems })
				if wrong != (e == api.ErrForm) {
					t.Fatalf("%+v: %q, %v", c.Symbols, s, e)
				}
			case want != api.OK:
				holds(t, name, s, e, "", want)
			case name == "Bytes" && !shape.Same(c, binaryOf(t, c)):
				holds(t, name, s, e, "", api.ErrSort)
			case s == "" || e != api.OK:
				t.Fatalf("%s of %+v: %q, %v", name, c, s, e)
			}
		}
	}
	for _, e := range samples.CodesOfNumbers() {
		if seen[e] < 10 {
			t.Errorf("%v came but %d times", e, seen[e])
		}
	}
}
