package shape_test

import (
	"slices"
	"strings"

	"trestle/api"
)

// said is a literal of a circuit, with the number of the thing of which it is said.
type said struct{ at, lit int }

// checkOf is Check by the chapter's words, item by item, of a circuit that is not too large.
func checkOf(c api.Circuit) (int, api.Errno) {
	if c.Max < 0 || c.Max > api.MaxVar {
		return 0, api.ErrRange
	}
	for _, part := range []func(c api.Circuit) (int, api.Errno){definedOf, usedOf, cycleOf, symbolsOf, commentsOf} {
		if at, e := part(c); e != api.OK {
			return at, e
		}
	}
	return 0, api.OK
}

// defines is all literals that a circuit's things define, and each one's Reset (of what is no latch: 0).
func defines(c api.Circuit) (lits []said, resets []int) {
	for i, l := range c.Inputs {
		lits, resets = append(lits, said{i, l}), append(resets, 0)
	}
	for i, l := range c.Latches {
		lits, resets = append(lits, said{i, l.Lit}), append(resets, l.Reset)
	}
	for i, g := range c.Ands {
		lits, resets = append(lits, said{i, g.Out}), append(resets, 0)
	}
	return lits, resets
}

func definedOf(c api.Circuit) (int, api.Errno) {
	lits, resets := defines(c)
	for k, s := range lits {
		if s.lit%2 != 0 || s.lit < 2 || s.lit > 2*c.Max {
			return s.at, api.ErrLit
		}
		if slices.ContainsFunc(lits[:k], func(x said) bool { return x.lit == s.lit }) {
			return s.at, api.ErrTwice
		}
		if !slices.Contains([]int{0, 1, s.lit}, resets[k]) {
			return s.at, api.ErrReset
		}
	}
	return 0, api.OK
}

func usedOf(c api.Circuit) (int, api.Errno) {
	var uses []said
	each := func(list []int) {
		for i, l := range list {
			uses = append(uses, said{i, l})
		}
	}
	for i, l := range c.Latches {
		uses = append(uses, said{i, l.Next})
	}
	each(c.Outputs)
	each(c.Bads)
	each(c.Constraints)
	for i, j := range c.Justice {
		for _, l := range j {
			uses = append(uses, said{i, l})
		}
	}
	each(c.Fairness)
	for i, g := range c.Ands {
		uses = append(uses, said{i, g.Left}, said{i, g.Right})
	}
	defined, _ := defines(c)
	for _, s := range uses {
		if s.lit < 0 || s.lit > 2*c.Max+1 {
			return s.at, api.ErrLit
		}
		if s.lit > 1 && !slices.ContainsFunc(defined, func(x said) bool { return x.lit == s.lit-s.lit%2 }) {
			return s.at, api.ErrLoose
		}
	}
	return 0, api.OK
}

// cycleOf finds which gate comes to which by trying all gates between (Warshall's way).
func cycleOf(c api.Circuit) (int, api.Errno) {
	comes := make([][]bool, len(c.Ands))
	for i, g := range c.Ands {
		comes[i] = make([]bool, len(c.Ands))
		for k, h := range c.Ands {
			comes[i][k] = g.Left/2 == h.Out/2 || g.Right/2 == h.Out/2
		}
	}
	for k := range comes {
		for i := range comes {
			for j := range comes {
				comes[i][j] = comes[i][j] || comes[i][k] && comes[k][j]
			}
		}
	}
	for i := range comes {
		if comes[i][i] {
			return i, api.ErrCycle
		}
	}
	return 0, api.OK
}

func symbolsOf(c api.Circuit) (int, api.Errno) {
	counts := [...]int{len(c.Inputs), len(c.Latches), len(c.Outputs), len(c.Bads), len(c.Constraints), len(c.Justice), len(c.Fairness)}
	for i, s := range c.Symbols {
		kind := strings.IndexByte("ilobcjf", s.Kind)
		if kind < 0 || s.At < 0 || s.At >= counts[kind] || len(s.Name) < 1 || len(s.Name) > api.MaxName {
			return i, api.ErrSymbol
		}
		if slices.ContainsFunc([]byte(s.Name), func(b byte) bool { return b < 32 }) {
			return i, api.ErrSymbol
		}
		if slices.ContainsFunc(c.Symbols[:i], func(x api.Symbol) bool { return x.Kind == s.Kind && x.At == s.At }) {
			return i, api.ErrSymbol
		}
	}
	return 0, api.OK
}

func commentsOf(c api.Circuit) (int, api.Errno) {
	for i, s := range c.Comments {
		if slices.Contains([]byte(s), 10) {
			return i, api.ErrComment
		}
	}
	return 0, api.OK
}

// orderOf is Order by the chapter's words: again and again all gates are looked at from the first one on.
func orderOf(c api.Circuit) []int {
	var out []int
	isGate, told := map[int]int{}, map[int]int{}
	for _, g := range c.Ands {
		isGate[g.Out/2] = 1
	}
	for len(out) < len(c.Ands) {
		for i, g := range c.Ands {
			if told[g.Out/2] == 0 && told[g.Left/2] == isGate[g.Left/2] && told[g.Right/2] == isGate[g.Right/2] {
				told[g.Out/2] = 1
				out = append(out, i)
				break
			}
		}
	}
	return out
}

// renumberOf is Renumber by the chapter's words.
func renumberOf(c api.Circuit) (api.Circuit, []int) {
	var defined []int
	for _, l := range c.Inputs {
		defined = append(defined, l)
	}
	for _, l := range c.Latches {
		defined = append(defined, l.Lit)
	}
	for _, i := range orderOf(c) {
		defined = append(defined, c.Ands[i].Out)
	}
	lit := func(l int) int { return 2*(slices.Index(defined, l-l%2)+1) + l%2 }
	lits := func(list []int) (out []int) {
		for _, l := range list {
			out = append(out, lit(l))
		}
		return out
	}
	n := api.Circuit{
		Max: len(defined), Inputs: lits(c.Inputs), Outputs: lits(c.Outputs), Bads: lits(c.Bads), Constraints: lits(c.Constraints),
		Fairness: lits(c.Fairness), Symbols: c.Symbols, Comments: c.Comments,
	}
	for _, j := range c.Justice {
		n.Justice = append(n.Justice, lits(j))
	}
	for _, l := range c.Latches {
		n.Latches = append(n.Latches, api.Latch{Lit: lit(l.Lit), Next: lit(l.Next), Reset: lit(l.Reset)})
	}
	for _, i := range orderOf(c) {
		g := c.Ands[i]
		two := []int{lit(g.Left), lit(g.Right)}
		n.Ands = append(n.Ands, api.And{Out: lit(g.Out), Left: slices.Max(two), Right: slices.Min(two)})
	}
	var m []int
	for v := range c.Max + 1 {
		m = append(m, lit(2*v))
	}
	return n, m
}

// isBinaryOf is IsBinary of a right circuit by the chapter's words.
func isBinaryOf(c api.Circuit) bool {
	defined, _ := defines(c)
	for k, s := range defined {
		if s.lit != 2*k+2 {
			return false
		}
	}
	for _, g := range c.Ands {
		if g.Out <= g.Left || g.Left < g.Right {
			return false
		}
	}
	return len(defined) == c.Max
}
