package hash_test

import (
	"math/rand"
	"slices"
	"testing"

	"trestle/api"
	"trestle/samples"
	"trestle/shape"
	"trestle/sim"
)

// stepOf asks layer 7.
func stepOf(t *testing.T, c api.Circuit, state, row []bool) samples.Step {
	t.Helper()
	s, e := samples.StepOf(c, state, row)
	if e != api.OK {
		t.Fatalf("%+v in %v by %v: %v", c, state, row, e)
	}
	return s
}

// literalsOf is all literals that a circuit's things use, one list behind the other.
func literalsOf(c api.Circuit) []int {
	all := slices.Concat(c.Inputs, c.Outputs, c.Bads, c.Constraints, c.Fairness, slices.Concat(c.Justice...))
	for _, l := range c.Latches {
		all = append(all, l.Lit, l.Next)
	}
	return all
}

// 9.4: in each state, by each row, each variable has the value of the literal that it has become, and so has whatever uses it.
func TestValuesAreTheSame(t *testing.T) {
	r := rand.New(rand.NewSource(95))
	for range 1500 {
		c := likened(r)
		n, m := built(t, c)
		used, uses := literalsOf(c), literalsOf(n)
		for _, state := range samples.AllLists(len(c.Latches), false, true) {
			for _, row := range samples.AllLists(len(c.Inputs), false, true) {
				was, is := stepOf(t, c, state, row), stepOf(t, n, state, row)
				for v, l := range m {
					if was.Values[v] != samples.Value(is.Values, l) {
						t.Fatalf("%+v: the variable %d, now %d, in %v by %v", c, v, l, state, row)
					}
				}
				for i, l := range used {
					if samples.Value(was.Values, l) != samples.Value(is.Values, uses[i]) {
						t.Fatalf("%+v: the literal %d, now %d, in %v by %v", c, l, uses[i], state, row)
					}
				}
				if !slices.Equal(was.Next, is.Next) || was.Holds != is.Holds || was.Starts != is.Starts {
					t.Fatalf("%+v in %v by %v: %+v, then %+v", c, state, row, was, is)
				}
			}
		}
	}
}

// 9.4: runs tell the same, step by step, of bads, justice and fairness too.
func TestRunsAreTheSame(t *testing.T) {
	r := rand.New(rand.NewSource(96))
	for range 1500 {
		c := likened(r)
		n, _ := built(t, c)
		tr := samples.Trace(c, 1+r.Intn(8), r.Intn)
		was, e := sim.Run(c, tr)
		is, f := sim.Run(n, tr)
		if e != api.OK || f != api.OK || len(was) != len(is) {
			t.Fatalf("%+v by %+v: %v, %v", c, tr, e, f)
		}
		for i, x := range was {
			y := is[i]
			if !slices.Equal(x.State, y.State) || x.Holds != y.Holds || !slices.Equal(x.Bads, y.Bads) || !slices.Equal(x.Fair, y.Fair) {
				t.Fatalf("%+v by %+v: the step %d was %+v, is %+v", c, tr, i, x, y)
			}
		}
	}
}

// 9.4, 9.5: what is built anew has no more gates, the binary order, no two like gates and no trivial one; it is the same when it is built anew, and when it is renumbered.
func TestBuiltAgain(t *testing.T) {
	r := rand.New(rand.NewSource(97))
	less := 0
	for range 5000 {
		c := likened(r)
		n, _ := built(t, c)
		tight(t, n)
		if len(n.Ands) > len(c.Ands) || n.Max != len(n.Inputs)+len(n.Latches)+len(n.Ands) || len(n.Inputs) != len(c.Inputs) || len(n.Latches) != len(c.Latches) {
			t.Fatalf("%+v: %+v", c, n)
		}
		if len(n.Ands) < len(c.Ands) {
			less++
		}
		itself := make([]int, n.Max+1)
		for v := range itself {
			itself[v] = 2 * v
		}
		builds(t, n, n, itself)
		if again, _, _ := shape.Renumber(n); !shape.Same(again, n) {
			t.Fatalf("%+v, renumbered %+v", n, again)
		}
	}
	if less < 1000 || less > 4500 {
		t.Errorf("%d have less gates", less)
	}
}

// 9.3: which one of a gate's literals is Left changes nothing; renumbered ahead, in the same order, it is the same circuit.
func TestLeftAndRight(t *testing.T) {
	r := rand.New(rand.NewSource(98))
	for range 1500 {
		c := likened(r)
		want, m := built(t, c)
		other := samples.Clone(c)
		for i, g := range other.Ands {
			other.Ands[i].Left, other.Ands[i].Right = g.Right, g.Left
		}
		builds(t, other, want, m)
		renumbered, first, _ := shape.Renumber(c)
		got, then := built(t, renumbered)
		for v, l := range first {
			if l > 0 {
				l = then[l/2]
			}
			if l != m[v] {
				t.Fatalf("%+v: the variable %d has become %d, then %d, want %d", c, v, first[v], l, m[v])
			}
		}
		if !shape.Same(got, want) {
			t.Fatalf("%+v: renumbered, then built anew %+v, want %+v", c, got, want)
		}
	}
}
