package sweep_test

import (
	"slices"
	"testing"

	"trestle/api"
	"trestle/hash"
	"trestle/samples"
	"trestle/shape"
	"trestle/sim"
	"trestle/tern"
)

// likeAhead is the first one of the latches that stay so far, told by their numbers, that has the same Reset, 0 or 1, and the same Next as a latch: its place among them, or -1.
func likeAhead(c api.Circuit, stay []int, l api.Latch) int {
	return slices.IndexFunc(stay, func(k int) bool {
		return c.Latches[k].Reset == l.Reset && l.Reset < 2 && c.Latches[k].Next == l.Next
	})
}

// roundOf is a round by the chapter's words: what came of a right circuit, what its variables have become, and how many latches were left away.
func roundOf(c api.Circuit) (api.Circuit, []int, int) {
	settled, _, _ := tern.Settle(c)
	m := make([]int, c.Max+1)
	var stay []int
	latch := func(place int) int { return 2*(len(c.Inputs)+place) + 2 }
	for i, l := range c.Latches {
		if settled[i] != 2 {
			m[l.Lit/2] = settled[i]
		} else if at := likeAhead(c, stay, l); at >= 0 {
			m[l.Lit/2] = latch(at)
		} else {
			m[l.Lit/2] = latch(len(stay))
			stay = append(stay, i)
		}
	}
	b, _ := hash.New(len(c.Inputs), len(stay))
	for i, l := range c.Inputs {
		m[l/2], _ = b.Input(i)
	}
	order, _ := shape.Order(c)
	for _, i := range order {
		g := c.Ands[i]
		m[g.Out/2], _ = b.And(m[g.Left/2]^g.Left%2, m[g.Right/2]^g.Right%2)
	}
	return movedBy(c, m, stay, b), m, len(c.Latches) - len(stay)
}

// movedBy is the circuit of a builder: of another one, of whose latches some stay, by what its variables have become.
func movedBy(c api.Circuit, m, stay []int, b *hash.Builder) api.Circuit {
	n := shape.Copy(c)
	for _, list := range append(n.Justice, n.Inputs, n.Outputs, n.Bads, n.Constraints, n.Fairness) {
		for i, l := range list {
			list[i] = m[l/2] ^ l%2
		}
	}
	n.Latches, n.Symbols = nil, nil
	for _, k := range stay {
		l := c.Latches[k]
		n.Latches = append(n.Latches, api.Latch{Lit: m[l.Lit/2], Next: m[l.Next/2] ^ l.Next%2, Reset: m[l.Reset/2] ^ l.Reset%2})
	}
	for _, s := range c.Symbols {
		if s.Kind == 'l' {
			s.At = slices.Index(stay, s.At)
		}
		if s.At >= 0 {
			n.Symbols = append(n.Symbols, s)
		}
	}
	n.Ands = b.Gates()
	n.Max = len(n.Inputs) + len(n.Latches) + len(n.Ands)
	return n
}

// sweepOf is what sweeping a right circuit comes to by the chapter's words, and how many rounds left latches away.
func sweepOf(c api.Circuit) (api.Circuit, []int, int) {
	n, m, _ := hash.Build(c)
	for rounds := 0; ; rounds++ {
		next, then, left := roundOf(n)
		for v, l := range m {
			m[v] = then[l/2] ^ l%2
		}
		n = next
		if left == 0 {
			return n, m, rounds
		}
	}
}

// answerOf is what a call answers by the chapter's words.
func answerOf(name string, c api.Circuit, tr api.Trace) answer {
	if _, e := shape.Check(c); e != api.OK {
		return answer{e: e}
	}
	n, m, _ := sweepOf(c)
	if name == "Sweep" {
		return answer{c: n, m: m}
	}
	// Layer 7 says whether a trace fits.
	if _, e := sim.Run(n, tr); e != api.OK {
		return answer{e: api.ErrShape}
	}
	is, _ := sim.Values(n, tr.Init, tr.Inputs[0])
	out := api.Trace{Inputs: tr.Inputs, Loop: tr.Loop}
	for _, l := range c.Latches {
		out.Init = append(out.Init, samples.Value(is, m[l.Lit/2]))
	}
	return answer{tr: out}
}

// asWords holds both calls against the chapter's words.
func asWords(t *testing.T, c api.Circuit, tr api.Trace) {
	t.Helper()
	for _, x := range calls() {
		want := answerOf(x.name, c, tr)
		if got := x.of(c, tr); !got.same(want) {
			t.Fatalf("%s of %s:\n%s, want\n%s", x.name, brief(c, tr), brief(got), brief(want))
		}
	}
}
