package hash_test

import (
	"slices"
	"testing"

	"trestle/api"
	"trestle/hash"
	"trestle/samples"
	"trestle/shape"
)

// maker is a builder: the package's, or what the chapter's words say of one.
type maker interface {
	And(x, y int) (int, api.Errno)
	Or(x, y int) (int, api.Errno)
	Xor(x, y int) (int, api.Errno)
	Mux(s, x, y int) (int, api.Errno)
	Size() int
	Gates() []api.And
}

// call is a call that may make gates, and how many literals it takes.
type call struct {
	name  string
	takes int
}

// calls is all calls that may make gates.
func calls() []call { return []call{{"And", 2}, {"Or", 2}, {"Xor", 2}, {"Mux", 3}} }

// of makes the call of a builder.
func (x call) of(b maker, lits []int) (int, api.Errno) {
	switch x.name {
	case "And":
		return b.And(lits[0], lits[1])
	case "Or":
		return b.Or(lits[0], lits[1])
	case "Xor":
		return b.Xor(lits[0], lits[1])
	}
	return b.Mux(lits[0], lits[1], lits[2])
}

// says is what the call says of truths.
func (x call) says(is []bool) bool {
	switch x.name {
	case "And":
		return is[0] && is[1]
	case "Or":
		return is[0] || is[1]
	case "Xor":
		return is[0] != is[1]
	}
	return is[0] && is[1] || !is[0] && is[2]
}

// allLiterals is all lists of n literals below last.
func allLiterals(n, last int) [][]int {
	var some []int
	for l := range last {
		some = append(some, l)
	}
	return samples.AllLists(n, some...)
}

// begin is a builder without gates.
func begin(t *testing.T, inputs, latches int) *hash.Builder {
	t.Helper()
	b, e := hash.New(inputs, latches)
	if e != api.OK || b == nil {
		t.Fatalf("New(%d, %d): %v, %v", inputs, latches, b, e)
	}
	return b
}

// both is a builder, and beside it what the chapter's words say of one.
type both struct {
	b    *hash.Builder
	want *asSaid
}

// beginBoth is both without gates.
func beginBoth(t *testing.T, inputs, latches int) both {
	t.Helper()
	return both{begin(t, inputs, latches), &asSaid{inputs: inputs, latches: latches}}
}

// agree makes a call of both and holds what they answer, and all their gates then, against each other.
func (x both) agree(t *testing.T, c call, lits ...int) (int, api.Errno) {
	t.Helper()
	was := slices.Clone(x.want.gates)
	l, e := c.of(x.b, lits)
	want, code := c.of(x.want, lits)
	if l != want || e != code || x.b.Size() != x.want.Size() || !slices.Equal(x.b.Gates(), x.want.gates) {
		t.Fatalf("%s%v of %d, %d, %v: %d, %v, %v, want %d, %v, %v", c.name, lits, x.want.inputs, x.want.latches, was, l, e, x.b.Gates(), want, code, x.want.gates)
	}
	return l, e
}

// makes holds what a call of a builder answers against what is wanted, and how many gates there are then.
func makes(t *testing.T, b *hash.Builder, want, size int, name string, lits ...int) {
	t.Helper()
	if l, e := (call{name: name}).of(b, lits); l != want || e != api.OK || b.Size() != size {
		t.Fatalf("%s%v: %d, %v, %d gates, want %d, %d", name, lits, l, e, b.Size(), want, size)
	}
}

// refuses holds a call of a builder against the error that is wanted, and how many gates there are then.
func refuses(t *testing.T, b *hash.Builder, want api.Errno, size int, name string, lits ...int) {
	t.Helper()
	if l, e := (call{name: name}).of(b, lits); l != 0 || e != want || b.Size() != size {
		t.Fatalf("%s%v: %d, %v, %d gates, want %v, %d", name, lits, l, e, b.Size(), want, size)
	}
}

// hasGates holds a builder's gates, told as Left and Right each, against those that are wanted.
func hasGates(t *testing.T, b *hash.Builder, first int, want ...[2]int) {
	t.Helper()
	var gates []api.And
	for i, g := range want {
		gates = append(gates, api.And{Out: first + 2*i, Left: g[0], Right: g[1]})
	}
	if got := b.Gates(); !slices.Equal(got, gates) || b.Size() != len(gates) {
		t.Fatalf("%v (Size %d), want %v", got, b.Size(), gates)
	}
}

// builds holds Build of a circuit against a circuit and a map.
func builds(t *testing.T, c, want api.Circuit, wantMap []int) {
	t.Helper()
	if got, m := built(t, c); !shape.Same(got, want) || !slices.Equal(m, wantMap) {
		t.Fatalf("%+v:\n%+v, %v, want\n%+v, %v", c, got, m, want, wantMap)
	}
}

// built is what Build makes of a right circuit.
func built(t *testing.T, c api.Circuit) (api.Circuit, []int) {
	t.Helper()
	n, m, e := hash.Build(c)
	if e != api.OK {
		t.Fatalf("%+v: %v", c, e)
	}
	return n, m
}

// asWords holds Build of a right circuit against the chapter's words.
func asWords(t *testing.T, c api.Circuit) {
	t.Helper()
	want, m := buildOf(c)
	builds(t, c, want, m)
}

// refuse holds Build against the error that is wanted; there must be nothing beside it.
func refuse(t *testing.T, what any, c api.Circuit, want api.Errno) {
	t.Helper()
	if n, m, e := hash.Build(c); e != want || len(m) > 0 || !shape.Same(n, api.Circuit{}) {
		t.Fatalf("%v: %+v, %v, %v, want %v", what, n, m, e, want)
	}
}
