package stim

import (
	"strconv"
	"strings"

	"trestle/api"
)

const (
	lineEnd  = "\n"
	blank    = " "
	point    = "."       // the last line
	loopWord = "c loop " // stands ahead of a loop's number
)

// textOf is the text of a witness that may be.
func textOf(w api.Witness) string {
	lines := []string{strconv.Itoa(w.Status), propsLine(w.Props)}
	if w.Status == broken {
		lines = append(lines, traceLines(w.Trace)...)
	}
	return strings.Join(append(lines, point), lineEnd) + lineEnd
}

// propsLine is the line of properties.
func propsLine(props []api.Prop) string {
	words := make([]string, len(props))
	for i, p := range props {
		words[i] = string(rune(p.Kind)) + strconv.Itoa(p.At)
	}
	return strings.Join(words, blank)
}

// traceLines is the lines of a trace.
func traceLines(t api.Trace) []string {
	lines := []string{rowLine(t.Init)}
	for _, row := range t.Inputs {
		lines = append(lines, rowLine(row))
	}
	if t.Loop != noLoop {
		lines = append(lines, loopWord+strconv.Itoa(t.Loop))
	}
	return lines
}

// rowLine is a digit for each truth.
func rowLine(row []bool) string {
	digits := make([]byte, len(row))
	for i, is := range row {
		digits[i] = '0'
		if is {
			digits[i] = '1'
		}
	}
	return string(digits)
}
