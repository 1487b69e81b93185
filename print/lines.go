package print

import (
	"strings"

	"trestle/api"
)

const (
	// The words that a header may begin with.
	textWord  = "aag"
	bytesWord = "aig"

	leastCounts = 5 // of a header; those behind are told up to the last one that is not 0

	kinds        = "ilobcjf" // the letters of symbols
	commentsLine = "c"       // stands ahead of the comments
)

// header is the words of a circuit's header.
func header(word string, c api.Circuit) []string {
	counts := []int{
		c.Max, len(c.Inputs), len(c.Latches), len(c.Outputs), len(c.Ands),
		len(c.Bads), len(c.Constraints), len(c.Justice), len(c.Fairness),
	}
	for len(counts) > leastCounts && counts[len(counts)-1] == 0 {
		counts = counts[:len(counts)-1]
	}
	all := []string{word}
	for _, n := range counts {
		all = append(all, digits(n))
	}
	return all
}

// nextAndReset is what stands in a latch's line in both formats; a Reset of 0 is left out.
func nextAndReset(l api.Latch) []int {
	if l.Reset == 0 {
		return []int{l.Next}
	}
	return []int{l.Next, l.Reset}
}

// lists tells what stands between latches and gates in both formats.
func lists(c api.Circuit, tell func(list ...int)) {
	each(c.Outputs, tell)
	each(c.Bads, tell)
	each(c.Constraints, tell)
	// All sizes stand ahead of the first literal.
	for _, j := range c.Justice {
		tell(len(j))
	}
	for _, j := range c.Justice {
		each(j, tell)
	}
	each(c.Fairness, tell)
}

// each tells a list of literals, one after the other.
func each(list []int, tell func(list ...int)) {
	for _, l := range list {
		tell(l)
	}
}

// end tells symbols and comments.
func end(symbols []api.Symbol, comments []string, tell func(parts ...string)) {
	for _, s := range symbols {
		tell(string(rune(s.Kind))+digits(s.At), s.Name)
	}
	if len(comments) > 0 {
		tell(commentsLine)
	}
	for _, s := range comments {
		tell(s)
	}
}

// isSymbol tells whether a symbol can stand in a line; whether a circuit may have it is layer 3's matter.
func isSymbol(s api.Symbol) bool {
	return strings.IndexByte(kinds, s.Kind) >= 0 && 0 <= s.At && s.At < api.MaxItems && s.Name != "" && !hasLineEnd(s.Name)
}

// hasLineEnd tells whether a name or a comment would be more than one line.
func hasLineEnd(s string) bool { return strings.Contains(s, lineEnd) }
