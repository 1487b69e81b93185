package stim_test

import (
	"math/rand"
	"strings"
	"testing"

	"trestle/api"
	"trestle/samples"
	"trestle/stim"
)

// 12.1: the lines of each Status, by hand: no latches, no inputs, neither, both.
func TestPrintByHand(t *testing.T) {
	tells(t, said(0, justice(16383)), size{2, 1}, "0\nj16383\n.\n")
	tells(t, said(2, bad(10), bad(9), justice(0), bad(100)), size{}, "2\nb10 b9 j0 b100\n.\n")
	tells(t, shown(samples.Told(-1, "", ""), bad(0)), size{}, "1\nb0\n\n\n.\n")
	tells(t, shown(samples.Told(0, "", "", ""), justice(0)), size{}, "1\nj0\n\n\n\nc loop 0\n.\n")
	tells(t, shown(samples.Told(-1, "101", "", ""), bad(0)), size{3, 0}, "1\nb0\n101\n\n\n.\n")
	tells(t, shown(samples.Told(1, "", "01", "10"), bad(0)), size{0, 2}, "1\nb0\n\n01\n10\nc loop 1\n.\n")
	tells(t, shown(samples.Told(2, "0", "1", "0", "1"), bad(0), justice(0)), size{1, 1}, "1\nb0 j0\n0\n1\n0\n1\nc loop 2\n.\n")
	tells(t, shown(samples.Told(-1, "0011", "110", "000"), bad(3)), size{4, 3}, "1\nb3\n0011\n110\n000\n.\n")
}

// 12.1: all traces of up to three rows of few latches and inputs.
func TestPrintOfAllShortTraces(t *testing.T) {
	for latches := range 3 {
		for inputs := range 3 {
			for n := 1; n < 4; n++ {
				for x := range 1 << (latches + n*inputs) {
					shortTrace(t, size{latches, inputs}, n, x)
				}
			}
		}
	}
}

// shortTrace holds all calls against the trace whose truths are a number's bits, with each loop.
func shortTrace(t *testing.T, z size, rows, bits int) {
	t.Helper()
	take := func(n int) []bool {
		out := make([]bool, n)
		for i := range out {
			out[i], bits = bits%2 == 1, bits/2
		}
		return out
	}
	tr := api.Trace{Init: take(z.latches)}
	for range rows {
		tr.Inputs = append(tr.Inputs, take(z.inputs))
	}
	for tr.Loop = -1; tr.Loop < rows; tr.Loop++ {
		tells(t, shown(tr, bad(0)), z, textOf(shown(tr, bad(0))))
	}
}

// wide is a witness of so many rows, and its text.
func wide(z size, rows, loop int) (api.Witness, string) {
	tr := api.Trace{Init: make([]bool, z.latches), Loop: loop}
	for range rows {
		tr.Inputs = append(tr.Inputs, make([]bool, z.inputs))
	}
	text := "1\nb0\n" + strings.Repeat("0", z.latches) + "\n" + strings.Repeat(strings.Repeat("0", z.inputs)+"\n", rows)
	if loop >= 0 {
		text += "c loop " + samples.Numbers(loop) + "\n"
	}
	return shown(tr, bad(0)), text + ".\n"
}

// tooLong holds all calls against a witness that may be, whose text is too long.
func tooLong(t *testing.T, w api.Witness, z size, text string) {
	t.Helper()
	if e := stim.Check(w, z.latches, z.inputs); e != api.OK {
		t.Fatalf("%s: %v", brief(w, z), e)
	}
	if s, e := stim.Print(w, z.latches, z.inputs); s != "" || e != api.ErrLong {
		t.Fatalf("%s: %s, %v", brief(w, z), samples.Short(s), e)
	}
	unreadBoth(t, text, z, 0, api.ErrLong)
}

// 12.1, 12.2: texts of MaxText bytes, and of one more, whatever makes them so long.
func TestLongTexts(t *testing.T) {
	for _, x := range []struct{ inputs, rows, loop int }{{16383, 15, -1}, {15999, 16, -1}, {15999, 16, 15}, {500, 512, -1}, {500, 512, 0}, {500, 512, 511}} {
		_, text := wide(size{0, x.inputs}, x.rows, x.loop)
		z := size{api.MaxText - len(text), x.inputs}
		w, text := wide(z, x.rows, x.loop)
		if len(text) != api.MaxText {
			t.Fatalf("%d bytes", len(text))
		}
		tells(t, w, z, text)
		z.latches++
		w, text = wide(z, x.rows, x.loop)
		tooLong(t, w, z, text)
	}
	z := size{api.MaxItems, api.MaxItems}
	for _, rows := range []int{16, api.MaxFrames} {
		w, text := wide(z, rows, 0)
		tooLong(t, w, z, text)
	}
	w, text := wide(z, 14, 0)
	tells(t, w, z, text)
}

// 12.1: what Check refuses, ahead of a text that is too long.
func TestWrongAheadOfLong(t *testing.T) {
	z := size{api.MaxItems, api.MaxItems}
	w, _ := wide(z, api.MaxFrames, 0)
	w.Props = append(w.Props, bad(0))
	refuses(t, "a property twice", w, z, api.ErrProp)
	w.Props = w.Props[:1]
	w.Trace.Loop = api.MaxFrames
	refuses(t, "a loop to no row", w, z, api.ErrShape)
	w.Status = 3
	refuses(t, "a Status that is none", w, z, api.ErrStatus)
	z.latches++
	refuses(t, "too many latches", w, z, api.ErrRange)
}

// 12.1: witnesses by chance: the text is the one that the chapter's words say.
func TestPrintByChance(t *testing.T) {
	r := rand.New(rand.NewSource(124))
	for range 5000 {
		z := size{r.Intn(20), r.Intn(20)}
		w := witnessBy(z, r.Intn)
		tells(t, w, z, textOf(w))
	}
}
