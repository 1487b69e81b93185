package stim

import (
	"strings"

	"trestle/api"
)

// noLine is told where no line comes that ends; it is none of any form, since a line has no end within it.
const noLine = lineEnd

// reader goes through a text line by line; the rows in it are of a circuit with so many latches and inputs.
type reader struct {
	text            string
	at              int // where the next line begins
	last            int // where the line begins that was read last
	latches, inputs int
}

// more tells whether something is left of the text.
func (r *reader) more() bool { return r.at < len(r.text) }

// line is the next line, without its end.
func (r *reader) line() string {
	r.last = r.at
	line, _, ended := strings.Cut(r.text[r.at:], lineEnd)
	if !ended {
		return noLine
	}
	r.at += len(line) + len(lineEnd)
	return line
}

// wrong is the fault of the line that was read last.
func (r *reader) wrong(code api.Errno) api.Fault { return api.Fault{At: r.last, Code: code} }

// witness is the witness of the next lines, up to its point; beside a fault it is nothing.
func (r *reader) witness() (api.Witness, api.Fault) {
	status, ok := statusOf(r.line())
	if !ok {
		return api.Witness{}, r.wrong(api.ErrStatus)
	}
	props, ok := propsOf(r.line())
	if !ok {
		return api.Witness{}, r.wrong(api.ErrProp)
	}
	w := api.Witness{Status: status, Props: props}
	if status == broken {
		w.Trace, ok = r.trace()
	} else {
		ok = r.line() == point
	}
	if !ok {
		return api.Witness{}, r.wrong(api.ErrForm)
	}
	return w, api.Fault{}
}

// trace is the trace of the next lines, up to the point behind it; false: the line that was read last is none that may come there.
func (r *reader) trace() (api.Trace, bool) {
	first, ok := rowOf(r.line(), r.latches)
	if !ok {
		return api.Trace{}, false
	}
	t := api.Trace{Init: first, Loop: noLoop}
	for {
		line := r.line()
		if line == point {
			return t, len(t.Inputs) > 0
		}
		if to, is := loopOf(line); is {
			t.Loop = to
			return t, to < len(t.Inputs) && r.line() == point
		}
		row, ok := rowOf(line, r.inputs)
		if !ok || len(t.Inputs) == api.MaxFrames {
			return api.Trace{}, false
		}
		t.Inputs = append(t.Inputs, row)
	}
}
