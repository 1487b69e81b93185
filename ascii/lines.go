package ascii

import (
	"strings"

	"trestle/api"
)

const (
	kinds        = "ilobcjf" // the letters of symbols
	commentsLine = "c"       // stands ahead of the comments
)

// circuit reads the lines between header and end: a circuit without symbols and comments.
func (r *reader) circuit(counts []int) api.Circuit {
	c := api.Circuit{Max: counts[ofMax]}
	// In the order of the format's lines, which is not that of the header's counts.
	c.Inputs = r.literals(counts[ofInputs])
	c.Latches = r.latches(counts[ofLatches])
	c.Outputs = r.literals(counts[ofOutputs])
	c.Bads = r.literals(counts[ofBads])
	c.Constraints = r.literals(counts[ofConstraints])
	c.Justice = r.justice(counts[ofJustice])
	c.Fairness = r.literals(counts[ofFairness])
	c.Ands = r.gates(counts[ofAnds])
	return c
}

// literals reads n lines of a literal each; whether it may be one is layer 3's matter.
func (r *reader) literals(n int) []int { return r.list(n, api.MaxNumber) }

// latches reads n latches.
func (r *reader) latches(n int) []api.Latch {
	out := make([]api.Latch, n)
	for i := range out {
		told := r.numbers(2, 3)
		out[i] = api.Latch{Lit: told[0], Next: told[1]}
		if len(told) == 3 {
			out[i].Reset = told[2]
		}
	}
	return out
}

// justice reads how many literals each of n justice properties has, and then these.
func (r *reader) justice(n int) [][]int {
	sizes := r.list(n, api.MaxItems)
	out := make([][]int, n)
	for i, size := range sizes {
		out[i] = r.literals(size)
	}
	return out
}

// gates reads n gates.
func (r *reader) gates(n int) []api.And {
	out := make([]api.And, n)
	for i := range out {
		told := r.numbers(3, 3)
		out[i] = api.And{Out: told[0], Left: told[1], Right: told[2]}
	}
	return out
}

// tail reads symbols and comments, up to the text's end.
func (r *reader) tail() (symbols []api.Symbol, comments []string) {
	for r.at < len(r.text) {
		line := r.line()
		if line == commentsLine {
			return symbols, r.comments()
		}
		symbols = append(symbols, r.symbol(line))
	}
	return symbols, nil
}

// symbol is the symbol that the line tells that was read last.
func (r *reader) symbol(line string) api.Symbol {
	thing, name, _ := strings.Cut(line, blank)
	if thing == "" || name == "" || strings.IndexByte(kinds, thing[0]) < 0 {
		r.refuse()
	}
	at, ok := numberOf(thing[1:])
	if !ok {
		r.refuse()
	}
	return api.Symbol{Kind: thing[0], At: at, Name: strings.Clone(name)}
}

// comments reads all lines up to the text's end.
func (r *reader) comments() []string {
	var out []string
	for r.at < len(r.text) {
		out = append(out, strings.Clone(r.line()))
	}
	return out
}
