package print

import (
	"strings"

	"trestle/api"
)

const (
	lineEnd = "\n"
	blank   = " "
)

// writer puts a text together, one piece behind the other.
type writer struct {
	text strings.Builder
	long bool // more was told than a text may have
}

// put tells a piece. Of a text that is too long nothing more is kept, however much is still to come.
func (w *writer) put(piece string) {
	w.long = w.long || w.text.Len()+len(piece) > api.MaxText
	if !w.long {
		w.text.WriteString(piece)
	}
}

// line tells a line of words.
func (w *writer) line(parts ...string) {
	for i, part := range parts {
		if i > 0 {
			w.put(blank)
		}
		w.put(part)
	}
	w.put(lineEnd)
}

// numbers tells a line of numbers.
func (w *writer) numbers(list ...int) {
	parts := make([]string, len(list))
	for i, n := range list {
		parts[i] = digits(n)
	}
	w.line(parts...)
}

// told is the text, if it is not too long.
func (w *writer) told() (string, api.Errno) {
	if w.long {
		return "", api.ErrLong
	}
	return w.text.String(), api.OK
}
