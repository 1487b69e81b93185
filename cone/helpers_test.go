package cone_test

import (
	"fmt"
	"slices"
	"testing"

	"trestle/api"
	"trestle/cone"
	"trestle/samples"
	"trestle/shape"
)

// given is what is handed in beside a circuit; each call takes what it has a place for.
type given struct {
	lits []int
	p, q api.Prop
	x    api.Cut
	tr   api.Trace
	l    api.Lemma
}

// answer is what a call told; where it tells no such thing, there is nothing.
type answer struct {
	truths  []bool
	numbers []int
	x       api.Cut
	tr      api.Trace
	counts  [2]int
	e       api.Errno
}

// call is a call of the package.
type call struct {
	name string
	of   func(c api.Circuit, g given) answer
}

// calls is all calls of the package.
func calls() []call {
	return []call{
		{"Support", func(c api.Circuit, g given) answer {
			s, e := cone.Support(c, g.lits)
			return answer{truths: s, e: e}
		}},
		{"Inputs", func(c api.Circuit, g given) answer {
			n, e := cone.Inputs(c, g.lits)
			return answer{numbers: n, e: e}
		}},
		{"Of", func(c api.Circuit, g given) answer { x, e := cone.Of(c, g.p); return answer{x: x, e: e} }},
		{"Trace", func(c api.Circuit, g given) answer {
			tr, e := cone.Trace(c, g.x, g.tr)
			return answer{tr: tr, e: e}
		}},
		{"Lemma", func(c api.Circuit, g given) answer {
			l, e := cone.Lemma(c, g.x, g.l)
			return answer{numbers: l, e: e}
		}},
		{"Alike", func(c api.Circuit, g given) answer {
			n, m, e := cone.Alike(c, g.p, g.q)
			return answer{counts: [2]int{n, m}, e: e}
		}},
	}
}

// some is the calls of these names.
func some(names ...string) []call {
	return slices.DeleteFunc(calls(), func(x call) bool { return !slices.Contains(names, x.name) })
}

// same tells whether two answers tell the same.
func (a answer) same(b answer) bool {
	return slices.Equal(a.truths, b.truths) && slices.Equal(a.numbers, b.numbers) && sameCut(a.x, b.x) && samples.SameTrace(a.tr, b.tr) && a.counts == b.counts && a.e == b.e
}

// sameCut tells whether two cuts have the same members.
func sameCut(x, y api.Cut) bool {
	return shape.Same(x.C, y.C) && slices.Equal(x.Lits, y.Lits) && slices.Equal(x.Inputs, y.Inputs) && slices.Equal(x.Latches, y.Latches)
}

// bad and justice are properties.
func bad(at int) api.Prop     { return api.Prop{Kind: api.SBad, At: at} }
func justice(at int) api.Prop { return api.Prop{Kind: api.SJustice, At: at} }

// propsOf is all properties of a circuit.
func propsOf(c api.Circuit) []api.Prop {
	var all []api.Prop
	for i := range c.Bads {
		all = append(all, bad(i))
	}
	for i := range c.Justice {
		all = append(all, justice(i))
	}
	return all
}

// example is the circuit of the chapter's examples.
func example() api.Circuit {
	return api.Circuit{
		Max: 5, Inputs: []int{2, 4}, Latches: []api.Latch{{Lit: 6, Next: 2}, {Lit: 8, Next: 10}}, Bads: []int{6, 8},
		Ands: []api.And{{Out: 10, Left: 8, Right: 4}},
	}
}

// brief is something as it can be told, if it is too long.
func brief(x ...any) string {
	s := fmt.Sprintf("%+v", x)
	if len(s) > 3000 {
		return s[:1500] + " .. " + s[len(s)-500:]
	}
	return s
}

// hangs holds Support of literals, also negated, against the variables that are wanted, and Inputs of them against the inputs' numbers.
func hangs(t *testing.T, c api.Circuit, lits, variables, inputs []int) {
	t.Helper()
	want := make([]bool, c.Max+1)
	for _, v := range variables {
		want[v] = true
	}
	lits = slices.Clone(lits)
	for range 2 {
		if got, e := cone.Support(c, lits); e != api.OK || !slices.Equal(got, want) {
			t.Fatalf("Support of %s: %s, want %s", brief(lits, c), brief(got, e), brief(want))
		}
		if got, e := cone.Inputs(c, lits); e != api.OK || !slices.Equal(got, inputs) {
			t.Fatalf("Inputs of %s: %s, want %s", brief(lits, c), brief(got, e), brief(inputs))
		}
		for i := range lits {
			lits[i] ^= 1
		}
	}
}

// cutBy is what Of makes of a property that there is.
func cutBy(t *testing.T, c api.Circuit, p api.Prop) api.Cut {
	t.Helper()
	x, e := cone.Of(c, p)
	if e != api.OK {
		t.Fatalf("%s: %v", brief(p, c), e)
	}
	return x
}

// cuts holds Of against the cut that is wanted.
func cuts(t *testing.T, c api.Circuit, p api.Prop, want api.Cut) {
	t.Helper()
	if got := cutBy(t, c, p); !sameCut(got, want) {
		t.Fatalf("%s:\n%s, want\n%s", brief(p, c), brief(got), brief(want))
	}
}

// alike holds Alike of two properties, in either order, against what is wanted.
func alike(t *testing.T, c api.Circuit, p, q api.Prop, both, either int) {
	t.Helper()
	for range 2 {
		if n, m, e := cone.Alike(c, p, q); n != both || m != either || e != api.OK {
			t.Fatalf("%s: %d, %d, %v, want %d, %d", brief(p, q, c), n, m, e, both, either)
		}
		p, q = q, p
	}
}

// traceBy is what Trace makes of what is right.
func traceBy(t *testing.T, c api.Circuit, x api.Cut, tr api.Trace) api.Trace {
	t.Helper()
	back, e := cone.Trace(c, x, tr)
	if e != api.OK {
		t.Fatalf("%s: %v", brief(tr, x, c), e)
	}
	return back
}

// goesBack holds Trace against the trace that is wanted.
func goesBack(t *testing.T, c api.Circuit, x api.Cut, tr, want api.Trace) {
	t.Helper()
	if got := traceBy(t, c, x, tr); !samples.SameTrace(got, want) {
		t.Fatalf("%s:\n%s, want\n%s", brief(tr, x, c), brief(got), brief(want))
	}
}

// comesOf holds Lemma against the literals that are wanted.
func comesOf(t *testing.T, c api.Circuit, x api.Cut, l, want []int) {
	t.Helper()
	if got, e := cone.Lemma(c, x, l); e != api.OK || !slices.Equal(got, want) {
		t.Fatalf("%s: %s, want %s", brief(l, x.Lits, c), brief(got, e), brief(want))
	}
}

// refuse holds calls against the error that is wanted; there must be nothing beside it.
func refuse(t *testing.T, what any, all []call, c api.Circuit, g given, want api.Errno) {
	t.Helper()
	for _, x := range all {
		if got := x.of(c, g); !got.same(answer{e: want}) {
			t.Fatalf("%s: %s: %s, want %v", brief(what), x.name, brief(got), want)
		}
	}
}
