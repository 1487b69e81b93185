package tern_test

import (
	"slices"
	"testing"

	"trestle/api"
	"trestle/samples"
	"trestle/tern"
)

// row is values, told as a text of 0, 1 and 2.
func row(s string) []int {
	out := make([]int, len(s))
	for i := range s {
		out[i] = int(s[i] - '0')
	}
	return out
}

// allRows is all rows of n values.
func allRows(n int) [][]int { return samples.AllLists(n, 0, 1, 2) }

// someRow is n values, each as pick says.
func someRow(n int, pick func(n int) int) []int {
	out := make([]int, n)
	for i := range out {
		out[i] = pick(3)
	}
	return out
}

// twos is a row of n values that are 2.
func twos(n int) []int { return slices.Repeat([]int{2}, n) }

// holder is the gate of the chapter's third example: 6 of two latches that stay as they are, both negated.
func holder() api.Circuit {
	return api.Circuit{Max: 3, Latches: []api.Latch{{Lit: 2, Next: 2}, {Lit: 4, Next: 4}}, Ands: []api.And{{Out: 6, Left: 3, Right: 5}}}
}

// values holds Values against what is wanted.
func values(t *testing.T, c api.Circuit, latches, inputs, want []int) {
	t.Helper()
	if got, e := tern.Values(c, latches, inputs); e != api.OK || !slices.Equal(got, want) {
		t.Fatalf("Values of %+v by %v, %v: %v, %v, want %v", c, latches, inputs, got, e, want)
	}
}

// steps holds Step against what is wanted.
func steps(t *testing.T, c api.Circuit, latches, inputs, want []int) {
	t.Helper()
	if got, e := tern.Step(c, latches, inputs); e != api.OK || !slices.Equal(got, want) {
		t.Fatalf("Step of %+v by %v, %v: %v, %v, want %v", c, latches, inputs, got, e, want)
	}
}

// literal holds Lit against what is wanted.
func literal(t *testing.T, values []int, l, want int) {
	t.Helper()
	if got, e := tern.Lit(values, l); e != api.OK || got != want {
		t.Fatalf("Lit of %d by %v: %v, %v, want %v", l, values, got, e, want)
	}
}

// resets holds Resets against what is wanted.
func resets(t *testing.T, c api.Circuit, want []int) {
	t.Helper()
	if got, e := tern.Resets(c); e != api.OK || !slices.Equal(got, want) {
		t.Fatalf("Resets of %+v: %v, %v, want %v", c, got, e, want)
	}
}

// joins holds Join, of both in either order, against what is wanted.
func joins(t *testing.T, a, b, want []int) {
	t.Helper()
	for range 2 {
		if got, e := tern.Join(a, b); e != api.OK || !slices.Equal(got, want) {
			t.Fatalf("Join of %v and %v: %v, %v, want %v", a, b, got, e, want)
		}
		a, b = b, a
	}
}

// settles holds Settle against what is wanted.
func settles(t *testing.T, c api.Circuit, want []int, times int) {
	t.Helper()
	if got, n, e := tern.Settle(c); e != api.OK || !slices.Equal(got, want) || n != times {
		t.Fatalf("Settle of %+v: %v, %d, %v, want %v, %d", c, got, n, e, want, times)
	}
}

// lifts holds Lift against what is wanted.
func lifts(t *testing.T, c api.Circuit, latches, inputs, lits, want []int) {
	t.Helper()
	if got, e := tern.Lift(c, latches, inputs, lits); e != api.OK || !slices.Equal(got, want) {
		t.Fatalf("Lift of %+v by %v, %v for %v: %v, %v, want %v", c, latches, inputs, lits, got, e, want)
	}
}

// asWords holds the calls of two rows against the chapter's words.
func asWords(t *testing.T, c api.Circuit, latches, inputs []int) {
	t.Helper()
	values(t, c, latches, inputs, valuesOf(c, latches, inputs))
	steps(t, c, latches, inputs, stepOf(c, latches, inputs))
}

// byAllRows does asWords by all rows.
func byAllRows(t *testing.T, c api.Circuit) {
	t.Helper()
	for _, latches := range allRows(len(c.Latches)) {
		for _, inputs := range allRows(len(c.Inputs)) {
			asWords(t, c, latches, inputs)
		}
	}
}

// refusal is what a call answered that had something wrong handed in.
type refusal struct {
	name    string
	e       api.Errno
	nothing bool // there is nothing beside the error
}

// rowCalls is the calls that take two rows, and literals.
func rowCalls(c api.Circuit, latches, inputs, lits []int) []refusal {
	v, e := tern.Values(c, latches, inputs)
	s, f := tern.Step(c, latches, inputs)
	return append(liftCall(c, latches, inputs, lits), refusal{"Values", e, len(v) == 0}, refusal{"Step", f, len(s) == 0})
}

// liftCall is the call that takes literals.
func liftCall(c api.Circuit, latches, inputs, lits []int) []refusal {
	l, e := tern.Lift(c, latches, inputs, lits)
	return []refusal{{"Lift", e, len(l) == 0}}
}

// loneCalls is the calls that take a circuit alone.
func loneCalls(c api.Circuit) []refusal {
	r, e := tern.Resets(c)
	s, n, f := tern.Settle(c)
	return []refusal{{"Resets", e, len(r) == 0}, {"Settle", f, len(s) == 0 && n == 0}}
}

// litCall is the call that takes values and a literal.
func litCall(values []int, l int) []refusal {
	v, e := tern.Lit(values, l)
	return []refusal{{"Lit", e, v == 0}}
}

// joinCalls is the call that takes two rows, of both in either order.
func joinCalls(a, b []int) []refusal {
	j, e := tern.Join(a, b)
	k, f := tern.Join(b, a)
	return []refusal{{"Join", e, len(j) == 0}, {"Join the other way round", f, len(k) == 0}}
}

// refuse holds what calls answered against the error that is wanted.
func refuse(t *testing.T, what any, all []refusal, want api.Errno) {
	t.Helper()
	for _, r := range all {
		if r.e != want || !r.nothing {
			t.Errorf("%v: %s: %v (nothing beside it: %v), want %v", what, r.name, r.e, r.nothing, want)
		}
	}
}
