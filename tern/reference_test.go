package tern_test

import (
	"slices"

	"trestle/api"
)

// notOf is the value of a negated literal by the chapter's words.
func notOf(v int) int {
	if v == 2 {
		return 2
	}
	return 1 - v
}

// andOf is the value of a gate by the chapter's words.
func andOf(left, right int) int {
	if left == 0 || right == 0 {
		return 0
	}
	if left == 1 && right == 1 {
		return 1
	}
	return 2
}

// valueOf is the value of a literal by the chapter's words: what defines its variable says it.
func valueOf(c api.Circuit, latches, inputs []int, l int) int {
	if l%2 == 1 {
		return notOf(valueOf(c, latches, inputs, l-1))
	}
	if l == 0 {
		return 0
	}
	if i := slices.Index(c.Inputs, l); i >= 0 {
		return inputs[i]
	}
	for i, latch := range c.Latches {
		if l == latch.Lit {
			return latches[i]
		}
	}
	for _, g := range c.Ands {
		if l == g.Out {
			return andOf(valueOf(c, latches, inputs, g.Left), valueOf(c, latches, inputs, g.Right))
		}
	}
	return 2
}

// valuesOf is the values of all variables by the chapter's words.
func valuesOf(c api.Circuit, latches, inputs []int) []int {
	var out []int
	for v := 0; v <= c.Max; v++ {
		out = append(out, valueOf(c, latches, inputs, 2*v))
	}
	return out
}

// stepOf is the latches' next values by the chapter's words.
func stepOf(c api.Circuit, latches, inputs []int) []int {
	var out []int
	for _, l := range c.Latches {
		out = append(out, valueOf(c, latches, inputs, l.Next))
	}
	return out
}

// resetsOf is the latches' first values by the chapter's words.
func resetsOf(c api.Circuit) []int {
	var out []int
	for _, l := range c.Latches {
		if l.Reset == l.Lit {
			out = append(out, 2)
		} else {
			out = append(out, l.Reset)
		}
	}
	return out
}

// joinOf is the values of two rows, place by place, by the chapter's words.
func joinOf(a, b []int) []int {
	var out []int
	for i := range a {
		if a[i] == b[i] {
			out = append(out, a[i])
		} else {
			out = append(out, 2)
		}
	}
	return out
}

// settleOf is where a circuit settles by the chapter's words, and behind how many changes.
func settleOf(c api.Circuit) ([]int, int) {
	now := resetsOf(c)
	for n := 0; ; n++ {
		next := joinOf(now, stepOf(c, now, twos(len(c.Inputs))))
		if slices.Equal(now, next) {
			return now, n
		}
		now = next
	}
}

// allTrueOf tells whether all literals have the value 1.
func allTrueOf(c api.Circuit, latches, inputs, lits []int) bool {
	for _, l := range lits {
		if valueOf(c, latches, inputs, l) != 1 {
			return false
		}
	}
	return true
}

// liftOf is the lifted row by the chapter's words.
func liftOf(c api.Circuit, latches, inputs, lits []int) []int {
	out := slices.Clone(latches)
	for i := range out {
		was := out[i]
		out[i] = 2
		if !allTrueOf(c, out, inputs, lits) {
			out[i] = was
		}
	}
	return out
}
