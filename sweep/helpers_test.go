package sweep_test

import (
	"fmt"
	"slices"
	"testing"

	"trestle/api"
	"trestle/samples"
	"trestle/shape"
	"trestle/sweep"
)

// answer is what a call told; where it tells no such thing, there is nothing.
type answer struct {
	c  api.Circuit
	m  []int
	tr api.Trace
	e  api.Errno
}

// call is a call of a circuit, and, if it takes one, of a trace.
type call struct {
	name string
	of   func(c api.Circuit, tr api.Trace) answer
}

// calls is all calls of the package.
func calls() []call {
	return []call{
		{"Sweep", func(c api.Circuit, _ api.Trace) answer { n, m, e := sweep.Sweep(c); return answer{c: n, m: m, e: e} }},
		{"Trace", func(c api.Circuit, tr api.Trace) answer { b, e := sweep.Trace(c, tr); return answer{tr: b, e: e} }},
	}
}

// same tells whether two answers tell the same.
func (a answer) same(b answer) bool {
	return shape.Same(a.c, b.c) && slices.Equal(a.m, b.m) && samples.SameTrace(a.tr, b.tr) && a.e == b.e
}

// refuse holds calls against the error that is wanted; there must be nothing beside it.
func refuse(t *testing.T, what any, all []call, c api.Circuit, tr api.Trace, want api.Errno) {
	t.Helper()
	for _, x := range all {
		if got := x.of(c, tr); !got.same(answer{e: want}) {
			t.Fatalf("%s: %s: %s, want %v", brief(what), x.name, brief(got), want)
		}
	}
}

// brief is something as it can be told, if it is too long.
func brief(x ...any) string {
	s := fmt.Sprintf("%+v", x)
	if len(s) > 3000 {
		return s[:1500] + " .. " + s[len(s)-500:]
	}
	return s
}

// swept is what Sweep makes of a right circuit.
func swept(t *testing.T, c api.Circuit) (api.Circuit, []int) {
	t.Helper()
	n, m, e := sweep.Sweep(c)
	if e != api.OK {
		t.Fatalf("%s: %v", brief(c), e)
	}
	return n, m
}

// sweeps holds Sweep of a circuit against a circuit and a map.
func sweeps(t *testing.T, c, want api.Circuit, wantMap ...int) {
	t.Helper()
	if got, m := swept(t, c); !shape.Same(got, want) || !slices.Equal(m, wantMap) {
		t.Fatalf("%s:\n%s, want\n%s", brief(c), brief(got, m), brief(want, wantMap))
	}
}

// traceBy is what Trace makes of what is right.
func traceBy(t *testing.T, c api.Circuit, tr api.Trace) api.Trace {
	t.Helper()
	back, e := sweep.Trace(c, tr)
	if e != api.OK {
		t.Fatalf("%s: %v", brief(c, tr), e)
	}
	return back
}

// goesBack holds Trace against the trace that is wanted.
func goesBack(t *testing.T, c api.Circuit, tr, want api.Trace) {
	t.Helper()
	if got := traceBy(t, c, tr); !samples.SameTrace(got, want) {
		t.Fatalf("%s:\n%s, want\n%s", brief(c, tr), brief(got), brief(want))
	}
}

// latches is latches of the literals from first on, each told as its Next and its Reset; a Reset of own is its own literal.
func latches(first int, all ...[2]int) []api.Latch {
	var out []api.Latch
	for i, x := range all {
		l := api.Latch{Lit: first + 2*i, Next: x[0], Reset: x[1]}
		if x[1] == own {
			l.Reset = l.Lit
		}
		out = append(out, l)
	}
	return out
}

// own stands for a latch's own literal as its Reset.
const own = -1

// upTo is the literals from first on up to last, not negated.
func upTo(first, last int) []int {
	var out []int
	for l := first; l <= last; l += 2 {
		out = append(out, l)
	}
	return out
}
