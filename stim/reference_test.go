package stim_test

import (
	"fmt"
	"regexp"
	"slices"
	"strconv"
	"strings"
	"testing"

	"trestle/api"
	"trestle/samples"
	"trestle/stim"
)

// The chapter's forms. A number has five digits at most, since MaxItems - 1 has.
var (
	statusForm = regexp.MustCompile(`^[012]\n$`)
	propsForm  = regexp.MustCompile(`^[bj](0|[1-9][0-9]{0,4})( [bj](0|[1-9][0-9]{0,4}))*\n$`)
	rowForm    = regexp.MustCompile(`^[01x]*\n$`)
	loopForm   = regexp.MustCompile(`^c loop (0|[1-9][0-9]{0,4})\n$`)
)

// checkOf is Check by the chapter's words.
func checkOf(w api.Witness, z size) api.Errno {
	if z.latches < 0 || z.latches > 1<<14 || z.inputs < 0 || z.inputs > 1<<14 {
		return api.ErrRange
	}
	if !slices.Contains([]int{0, 1, 2}, w.Status) {
		return api.ErrStatus
	}
	if len(w.Props) > 1<<14 {
		return api.ErrLong
	}
	if !propsMayBe(w.Props) {
		return api.ErrProp
	}
	tr := w.Trace
	if w.Status != 1 {
		if len(tr.Init)+len(tr.Inputs) > 0 || tr.Loop != 0 {
			return api.ErrShape
		}
		return api.OK
	}
	wrongRow := slices.ContainsFunc(tr.Inputs, func(row []bool) bool { return len(row) != z.inputs })
	if len(tr.Init) != z.latches || wrongRow || len(tr.Inputs) == 0 || len(tr.Inputs) > 512 || tr.Loop < -1 || tr.Loop > len(tr.Inputs)-1 {
		return api.ErrShape
	}
	return api.OK
}

// propsMayBe is what the chapter says of properties, but how many there may be at most.
func propsMayBe(props []api.Prop) bool {
	seen := map[api.Prop]int{}
	for _, p := range props {
		seen[p]++
		if p.Kind != 'b' && p.Kind != 'j' || p.At < 0 || p.At > 1<<14-1 {
			return false
		}
	}
	return len(props) > 0 && len(seen) == len(props)
}

// textOf is the text of a witness that may be, by the chapter's words.
func textOf(w api.Witness) string {
	s := fmt.Sprintln(w.Status)
	for i, p := range w.Props {
		if i > 0 {
			s += " "
		}
		s += fmt.Sprintf("%c%d", p.Kind, p.At)
	}
	s += "\n"
	if w.Status != 1 {
		return s + ".\n"
	}
	for _, row := range append([][]bool{w.Trace.Init}, w.Trace.Inputs...) {
		for _, is := range row {
			s += map[bool]string{false: "0", true: "1"}[is]
		}
		s += "\n"
	}
	if w.Trace.Loop != -1 {
		s += fmt.Sprintf("c loop %d\n", w.Trace.Loop)
	}
	return s + ".\n"
}

// piece is a part of a text up to a byte 10, that one too, or what stands behind the last one, perhaps nothing.
type piece struct {
	at   int
	text string
}

func piecesOf(s string) []piece {
	var out []piece
	at := 0
	for _, part := range strings.SplitAfter(s, "\n") {
		out = append(out, piece{at, part})
		at += len(part)
	}
	return out
}

// propsIn is the properties of a line of the chapter's form.
func propsIn(line string) []api.Prop {
	var out []api.Prop
	for _, word := range strings.Fields(line) {
		at, _ := strconv.Atoi(word[1:])
		out = append(out, api.Prop{Kind: word[0], At: at})
	}
	return out
}

// isRow tells whether a piece is a row of n digits.
func (p piece) isRow(n int) bool { return rowForm.MatchString(p.text) && len(p.text) == n+1 }

// row is the truths of such a row.
func (p piece) row() []bool { return samples.Bits(strings.TrimSuffix(p.text, "\n")) }

// firstOf is the witness that stands at the front of some pieces, and how many of them it takes.
func firstOf(p []piece, z size) (api.Witness, int, api.Fault) {
	none := func(i int, code api.Errno) (api.Witness, int, api.Fault) {
		return api.Witness{}, 0, api.Fault{At: p[i].at, Code: code}
	}
	if !statusForm.MatchString(p[0].text) {
		return none(0, api.ErrStatus)
	}
	w := api.Witness{Status: int(p[0].text[0] - '0')}
	if !propsForm.MatchString(p[1].text) {
		return none(1, api.ErrProp)
	}
	if w.Props = propsIn(p[1].text); !propsMayBe(w.Props) || len(w.Props) > 1<<14 {
		return none(1, api.ErrProp)
	}
	next := 2
	if w.Status == 1 {
		if !p[2].isRow(z.latches) {
			return none(2, api.ErrForm)
		}
		w.Trace = api.Trace{Init: p[2].row(), Loop: -1}
		for next = 3; p[next].isRow(z.inputs); next++ {
			if next-3 == 512 {
				return none(next, api.ErrForm)
			}
			w.Trace.Inputs = append(w.Trace.Inputs, p[next].row())
		}
		if m := loopForm.FindStringSubmatch(p[next].text); m != nil {
			w.Trace.Loop, _ = strconv.Atoi(m[1])
			if w.Trace.Loop >= len(w.Trace.Inputs) {
				return none(next, api.ErrForm)
			}
			next++
		}
	}
	if p[next].text != ".\n" || next == 3 {
		return none(next, api.ErrForm)
	}
	return w, next + 1, api.Fault{}
}

// wrongBeside is what is wrong with what stands beside a text's lines, by the chapter's words.
func wrongBeside(s string, z size) api.Fault {
	if len(s) > 1<<18 {
		return api.Fault{Code: api.ErrLong}
	}
	if z.latches < 0 || z.latches > 1<<14 || z.inputs < 0 || z.inputs > 1<<14 {
		return api.Fault{Code: api.ErrRange}
	}
	return api.Fault{}
}

// readOf is Read by the chapter's words.
func readOf(s string, z size) (api.Witness, api.Fault) {
	if f := wrongBeside(s, z); f.Code != api.OK {
		return api.Witness{}, f
	}
	p := piecesOf(s)
	w, n, f := firstOf(p, z)
	if f.Code == api.OK && p[n].at < len(s) {
		return api.Witness{}, api.Fault{At: p[n].at, Code: api.ErrForm}
	}
	return w, f
}

// allOf is All by the chapter's words.
func allOf(s string, z size) ([]api.Witness, api.Fault) {
	if f := wrongBeside(s, z); f.Code != api.OK {
		return nil, f
	}
	var out []api.Witness
	var places []int
	for p := piecesOf(s); p[0].at < len(s); {
		w, n, f := firstOf(p, z)
		if f.Code != api.OK {
			return nil, f
		}
		out, places = append(out, w), append(places, p[0].at)
		p = p[n:]
	}
	if len(out) > 1<<14 {
		return nil, api.Fault{At: places[1<<14], Code: api.ErrLong}
	}
	return out, api.Fault{}
}

// checkedAsWords holds Check and Print of a witness against the chapter's words; what may be is read of its text.
func checkedAsWords(t *testing.T, w api.Witness, z size) api.Errno {
	t.Helper()
	e := checkOf(w, z)
	if e == api.OK {
		tells(t, w, z, textOf(w))
	} else {
		refuses(t, "by the words", w, z, e)
	}
	return e
}

// readAsWords holds Read and All of a text against the chapter's words, and tells what Read answered.
func readAsWords(t *testing.T, s string, z size) api.Fault {
	t.Helper()
	want, fault := readOf(s, z)
	if w, f := stim.Read(s, z.latches, z.inputs); !same(w, want) || f != fault {
		t.Fatalf("%s, %v: %s, want %s", samples.Short(s), z, brief(w, f), brief(want, fault))
	}
	l, faultOfAll := allOf(s, z)
	if faultOfAll.Code == api.OK {
		readsAll(t, s, z, l...)
	} else {
		unreadAll(t, s, z, faultOfAll.At, faultOfAll.Code)
	}
	return fault
}
