package cone_test

import (
	"slices"
	"testing"

	"trestle/api"
	"trestle/shape"
)

// hungOn tells of each variable by the chapter's words whether one of some literals hangs on it: what hangs is looked through again and again, until nothing comes to it.
func hungOn(c api.Circuit, lits []int, withinStep bool) []bool {
	on := make([]bool, c.Max+1)
	for _, l := range lits {
		on[l/2] = true
	}
	for {
		was := slices.Clone(on)
		for _, g := range c.Ands {
			if on[g.Out/2] {
				on[g.Left/2], on[g.Right/2] = true, true
			}
		}
		for _, l := range c.Latches {
			if on[l.Lit/2] && !withinStep {
				on[l.Next/2] = true
			}
		}
		if slices.Equal(was, on) {
			on[0] = false
			return on
		}
	}
}

// inputsOf is the numbers of the inputs on which some literals hang within one step, by the chapter's words.
func inputsOf(c api.Circuit, lits []int) []int {
	on := hungOn(c, lits, true)
	var out []int
	for i, l := range c.Inputs {
		if on[l/2] {
			out = append(out, i)
		}
	}
	return out
}

// rootsOf is the roots of a property by the chapter's words.
func rootsOf(c api.Circuit, p api.Prop) []int {
	roots := slices.Clone(c.Constraints)
	if p.Kind == 'b' {
		return append(roots, c.Bads[p.At])
	}
	roots = append(roots, c.Justice[p.At]...)
	roots = append(roots, c.Fairness...)
	for _, l := range c.Latches {
		roots = append(roots, l.Lit)
	}
	return roots
}

// cutOf is the cut of a property by the chapter's words: what is in the cone is put in a row, and numbered by its place there.
func cutOf(c api.Circuit, p api.Prop) api.Cut {
	on := hungOn(c, rootsOf(c, p), false)
	row := []int{0}
	var x api.Cut
	for i, l := range c.Inputs {
		if on[l/2] {
			row, x.Inputs = append(row, l/2), append(x.Inputs, i)
		}
	}
	for i, l := range c.Latches {
		if on[l.Lit/2] {
			row, x.Latches = append(row, l.Lit/2), append(x.Latches, i)
		}
	}
	for _, g := range c.Ands {
		if on[g.Out/2] {
			row = append(row, g.Out/2)
		}
	}
	for v := 0; v <= c.Max; v++ {
		at := slices.Index(row, v)
		if at >= 0 {
			at = 2 * at
		}
		x.Lits = append(x.Lits, at)
	}
	x.C = movedBy(c, p, x.Lits)
	x.C.Max = len(row) - 1
	return x
}

// movedBy is a circuit of what has a literal, but for the greatest variable.
func movedBy(c api.Circuit, p api.Prop, lits []int) api.Circuit {
	move := func(list ...int) []int {
		var out []int
		for _, l := range list {
			if l%2 == 0 {
				out = append(out, lits[l/2])
			} else {
				out = append(out, lits[l/2]+1)
			}
		}
		return out
	}
	n := api.Circuit{Constraints: move(c.Constraints...)}
	for _, l := range c.Inputs {
		if lits[l/2] > 0 {
			n.Inputs = append(n.Inputs, move(l)...)
		}
	}
	for _, l := range c.Latches {
		if lits[l.Lit/2] > 0 {
			m := move(l.Lit, l.Next)
			latch := api.Latch{Lit: m[0], Next: m[1], Reset: l.Reset}
			if l.Reset == l.Lit {
				latch.Reset = latch.Lit
			}
			n.Latches = append(n.Latches, latch)
		}
	}
	for _, g := range c.Ands {
		if lits[g.Out/2] > 0 {
			m := move(g.Out, g.Left, g.Right)
			n.Ands = append(n.Ands, api.And{Out: m[0], Left: m[1], Right: m[2]})
		}
	}
	if p.Kind == 'b' {
		n.Bads = move(c.Bads[p.At])
	} else {
		n.Justice = [][]int{move(c.Justice[p.At]...)}
		n.Fairness = move(c.Fairness...)
	}
	return n
}

// alikeOf is how many latches are in both cones, and in one of them at least, by the chapter's words.
func alikeOf(c api.Circuit, p, q api.Prop) (both, either int) {
	first, second := cutOf(c, p).Latches, cutOf(c, q).Latches
	for i := range c.Latches {
		in := 0
		if slices.Contains(first, i) {
			in++
		}
		if slices.Contains(second, i) {
			in++
		}
		both += in / 2
		either += (in + 1) / 2
	}
	return both, either
}

// traceOf is a cut's trace in the circuit by the chapter's words.
func traceOf(c api.Circuit, x api.Cut, tr api.Trace) api.Trace {
	out := api.Trace{Loop: tr.Loop}
	for i, l := range c.Latches {
		begins := l.Reset == 1
		if at := slices.Index(x.Latches, i); at >= 0 {
			begins = tr.Init[at]
		}
		out.Init = append(out.Init, begins)
	}
	for _, row := range tr.Inputs {
		var whole []bool
		for i := range c.Inputs {
			at := slices.Index(x.Inputs, i)
			whole = append(whole, at >= 0 && row[at])
		}
		out.Inputs = append(out.Inputs, whole)
	}
	return out
}

// lemmaOf is a cut's lemma in the circuit by the chapter's words.
func lemmaOf(x api.Cut, l []int) []int {
	var out []int
	for _, k := range l {
		out = append(out, 2*slices.Index(x.Lits, k-k%2)+k%2)
	}
	return out
}

// rising tells whether numbers rise and are those of some of n things.
func rising(list []int, n int) bool {
	for i, k := range list {
		if k < 0 || k >= n || i > 0 && k <= list[i-1] {
			return false
		}
	}
	return true
}

// wrongOf is what is wrong first, by the words of the chapter and of R1 and R2, with what a call is given.
func wrongOf(name string, c api.Circuit, g given) api.Errno {
	if _, e := shape.Check(c); e != api.OK {
		return e
	}
	switch name {
	case "Support", "Inputs":
		return wrongLiterals(c, g.lits)
	case "Of":
		return wrongProp(c, g.p)
	case "Alike":
		return max(wrongProp(c, g.p), wrongProp(c, g.q)) // there is but one error
	case "Trace":
		return wrongTrace(c, g.x, g.tr)
	}
	return wrongLemma(c, g.x, g.l)
}

func wrongLiterals(c api.Circuit, lits []int) api.Errno {
	if len(lits) > api.MaxItems {
		return api.ErrLong
	}
	for _, l := range lits {
		if l < 0 || l > 2*c.Max+1 {
			return api.ErrRange
		}
	}
	return api.OK
}

func wrongProp(c api.Circuit, p api.Prop) api.Errno {
	if slices.Contains(propsOf(c), p) {
		return api.OK
	}
	return api.ErrNone
}

func wrongTrace(c api.Circuit, x api.Cut, tr api.Trace) api.Errno {
	fits := rising(x.Inputs, len(c.Inputs)) && rising(x.Latches, len(c.Latches)) && len(tr.Init) == len(x.Latches) && len(tr.Inputs) <= api.MaxFrames
	for _, row := range tr.Inputs {
		fits = fits && len(row) == len(x.Inputs)
	}
	if !fits {
		return api.ErrShape
	}
	return api.OK
}

func wrongLemma(c api.Circuit, x api.Cut, l api.Lemma) api.Errno {
	times := map[int]int{}
	fits := len(x.Lits) == c.Max+1
	for _, k := range x.Lits {
		times[k]++
		fits = fits && (k == -1 || k == 0 || k > 0 && k <= 2*api.MaxVar && k%2 == 0 && times[k] == 1)
	}
	if !fits {
		return api.ErrShape
	}
	if len(l) > api.MaxItems {
		return api.ErrLong
	}
	for _, k := range l {
		if k < 2 || times[k-k%2] == 0 {
			return api.ErrNone
		}
	}
	return api.OK
}

// answerOf is what a call answers by the words of the chapter.
func answerOf(name string, c api.Circuit, g given) answer {
	a := answer{e: wrongOf(name, c, g)}
	if a.e != api.OK {
		return a
	}
	switch name {
	case "Support":
		a.truths = hungOn(c, g.lits, false)
	case "Inputs":
		a.numbers = inputsOf(c, g.lits)
	case "Of":
		a.x = cutOf(c, g.p)
	case "Alike":
		a.counts[0], a.counts[1] = alikeOf(c, g.p, g.q)
	case "Trace":
		a.tr = traceOf(c, g.x, g.tr)
	case "Lemma":
		a.numbers = lemmaOf(g.x, g.l)
	}
	return a
}

// asWords holds calls against the chapter's words.
func asWords(t *testing.T, all []call, c api.Circuit, g given) {
	t.Helper()
	for _, x := range all {
		want := answerOf(x.name, c, g)
		if got := x.of(c, g); !got.same(want) {
			t.Fatalf("%s of %s:\n%s, want\n%s", x.name, brief(c, g), brief(got), brief(want))
		}
	}
}
