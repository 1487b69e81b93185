package ascii

import (
	"strings"

	"trestle/api"
)

// The words that a header may begin with.
const (
	textWord  = "aag"
	bytesWord = "aig"
)

// The places of a header's counts.
const (
	ofMax = iota
	ofInputs
	ofLatches
	ofOutputs
	ofAnds
	ofBads
	ofConstraints
	ofJustice
	ofFairness

	allCounts
	leastCounts = ofAnds + 1 // those behind may be left out
)

// header reads the header that a text begins with; counts has all counts, also those that are left out.
func header(s string) (word string, counts []int, end int) {
	line, _, ended := strings.Cut(s, lineEnd)
	word, rest, _ := strings.Cut(line, blank)
	told, ok := numbersOf(rest, leastCounts, allCounts)
	if !ended || word != textWord && word != bytesWord || !ok {
		giveUp(0, api.ErrHeader)
	}
	counts = make([]int, allCounts)
	copy(counts, told)
	checkCounts(counts)
	return strings.Clone(word), counts, len(line) + len(lineEnd)
}

// checkCounts gives up counts that may not be.
func checkCounts(counts []int) {
	for i, n := range counts {
		most := api.MaxItems
		if i == ofMax {
			most = api.MaxVar
		}
		if n > most {
			giveUp(0, api.ErrCount)
		}
	}
	if counts[ofInputs]+counts[ofLatches]+counts[ofAnds] > counts[ofMax] {
		giveUp(0, api.ErrCount)
	}
}
