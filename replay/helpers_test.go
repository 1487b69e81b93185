package replay_test

import (
	"fmt"
	"slices"
	"strings"
	"testing"

	"trestle/api"
	"trestle/replay"
	"trestle/samples"
)

// given is what is handed in beside a circuit: a number of a bad or of a justice property, a property, and a trace.
type given struct {
	i  int
	p  api.Prop
	tr api.Trace
}

// answer is what a call told; where it tells no such thing, there is nothing.
type answer struct {
	at   int
	list []int
	e    api.Errno
}

// same tells whether two answers tell the same.
func (a answer) same(b answer) bool {
	return a.at == b.at && slices.Equal(a.list, b.list) && a.e == b.e
}

// call is a call of a circuit, and of what it takes of what is given.
type call struct {
	name string
	of   func(c api.Circuit, g given) answer
}

// calls is all calls of the package.
func calls() []call {
	return []call{
		{"Bad", func(c api.Circuit, g given) answer { at, e := replay.Bad(c, g.i, g.tr); return answer{at: at, e: e} }},
		{"Justice", func(c api.Circuit, g given) answer {
			at, e := replay.Justice(c, g.i, g.tr)
			return answer{at: at, e: e}
		}},
		{"Prop", func(c api.Circuit, g given) answer { at, e := replay.Prop(c, g.p, g.tr); return answer{at: at, e: e} }},
		{"Reached", func(c api.Circuit, g given) answer { l, e := replay.Reached(c, g.tr); return answer{list: l, e: e} }},
	}
}

// some is the calls of these names.
func some(names ...string) []call {
	return slices.DeleteFunc(calls(), func(x call) bool { return !slices.Contains(names, x.name) })
}

// answers holds calls against what is wanted of all of them.
func answers(t *testing.T, what any, all []call, c api.Circuit, g given, want answer) {
	t.Helper()
	for _, x := range all {
		if got := x.of(c, g); !got.same(want) {
			t.Fatalf("%s: %s of %s: %s, want %s", brief(what), x.name, brief(c, g), brief(got), brief(want))
		}
	}
}

// refuse holds calls against an error beside which there is nothing.
func refuse(t *testing.T, what any, all []call, c api.Circuit, g given, want api.Errno) {
	t.Helper()
	answers(t, what, all, c, g, answer{e: want})
}

// brief is something as it can be told, if it is too long.
func brief(x ...any) string {
	s := fmt.Sprintf("%+v", x)
	if len(s) > 3000 {
		return s[:1500] + " .. " + s[len(s)-500:]
	}
	return s
}

// bad holds Bad, and Prop, against a place and an error.
func bad(t *testing.T, c api.Circuit, i int, tr api.Trace, at int, e api.Errno) {
	t.Helper()
	answers(t, "a bad", some("Bad", "Prop"), c, given{i: i, p: api.Prop{Kind: 'b', At: i}, tr: tr}, answer{at: at, e: e})
}

// justice holds Justice, and Prop, against a place and an error.
func justice(t *testing.T, c api.Circuit, j int, tr api.Trace, at int, e api.Errno) {
	t.Helper()
	answers(t, "a justice", some("Justice", "Prop"), c, given{i: j, p: api.Prop{Kind: 'j', At: j}, tr: tr}, answer{at: at, e: e})
}

// reached holds Reached against the numbers that are wanted.
func reached(t *testing.T, c api.Circuit, tr api.Trace, want ...int) {
	t.Helper()
	answers(t, "what is reached", some("Reached"), c, given{tr: tr}, answer{list: want})
}

// noRun holds all calls against what is wrong with a trace as a run; the circuit must have a bad and a justice property.
func noRun(t *testing.T, c api.Circuit, tr api.Trace, at int, e api.Errno) {
	t.Helper()
	bad(t, c, 0, tr, at, e)
	justice(t, c, 0, tr, at, e)
	refuse(t, "no run", some("Reached"), c, given{tr: tr}, e)
}

// turning is the circuit T of the document, one latch that turns each step, with some justice properties.
func turning(justice ...[]int) api.Circuit {
	return api.Circuit{Max: 1, Latches: []api.Latch{{Lit: 2, Next: 3}}, Bads: []int{2}, Justice: justice}
}

// inputs is a circuit of n inputs alone, 2, 4 and so on.
func inputs(n int) api.Circuit {
	c := api.Circuit{Max: n}
	for i := range n {
		c.Inputs = append(c.Inputs, 2*i+2)
	}
	return c
}

// following is a circuit of n inputs and as many latches, each of which is what its input was, and begins as it likes.
func following(n int) api.Circuit {
	c := inputs(n)
	c.Max = 2 * n
	for i, l := range c.Inputs {
		lit := l + 2*n
		c.Latches = append(c.Latches, api.Latch{Lit: lit, Next: c.Inputs[i], Reset: lit})
	}
	return c
}

// counting is a circuit of two latches that count from 0 to 3 and on, the first one the lowest.
func counting() api.Circuit {
	return api.Circuit{
		Max: 5, Latches: []api.Latch{{Lit: 2, Next: 3}, {Lit: 4, Next: 11}},
		Ands: []api.And{{Out: 10, Left: 7, Right: 9}, {Out: 6, Left: 2, Right: 5}, {Out: 8, Left: 3, Right: 4}},
	}
}

// bits is a trace of one bit a row, for circuits of one input; the first state is told ahead.
func bits(first, rows string) api.Trace { return samples.Told(-1, first, strings.Split(rows, "")...) }

// allBits is all texts of 0 and 1 of that many characters.
func allBits(n int) []string {
	var out []string
	for _, l := range samples.AllLists(n, "0", "1") {
		out = append(out, strings.Join(l, ""))
	}
	return out
}

// empty is a trace of that many empty rows.
func empty(first string, rows, loop int) api.Trace {
	return api.Trace{Init: samples.Bits(first), Inputs: make([][]bool, rows), Loop: loop}
}

// lengths is how many rows traces have where each number would be too many: one, some, as many as there may be.
func lengths() []int { return []int{1, 2, 3, 4, 5, 17, 100, api.MaxFrames - 1, api.MaxFrames} }
