package stim_test

import (
	"math/rand"
	"slices"
	"strings"
	"testing"

	"trestle/api"
	"trestle/samples"
	"trestle/stim"
)

// 12.4: what is printed of a witness that may be is read as it.
func TestPrintedIsRead(t *testing.T) {
	r := rand.New(rand.NewSource(128))
	for range 5000 {
		z := size{r.Intn(9), r.Intn(9)}
		w := witnessBy(z, r.Intn)
		reads(t, textBy(t, w, z), z, w)
	}
}

// 12.4: what is read may be, and is printed as the text, if that has no x; if it has, as the text with 0 in their places.
func TestReadIsPrinted(t *testing.T) {
	r := rand.New(rand.NewSource(129))
	right, plain := 0, 0
	for range 60000 {
		z := sizes()[r.Intn(len(sizes()))]
		s := textBy(t, witnessBy(z, r.Intn), z)
		if r.Intn(2) == 0 {
			s = withX(s, r.Intn)
		}
		for range r.Intn(3) {
			s = samples.Changed(s, "01x2bj. \nc9", r.Intn)
		}
		w, f := stim.Read(s, z.latches, z.inputs)
		if f.Code != api.OK {
			continue
		}
		right++
		if e := stim.Check(w, z.latches, z.inputs); e != api.OK {
			t.Fatalf("%q, %v: %s, %v", s, z, brief(w), e)
		}
		if !strings.Contains(s, "x") {
			plain++
		}
		// No other line of a witness has an x.
		if told := textBy(t, w, z); told != strings.ReplaceAll(s, "x", "0") {
			t.Fatalf("%q, %v: %q", s, z, told)
		}
	}
	if plain < 5000 || right-plain < 1000 {
		t.Errorf("%d are read, %d of them have no x", right, plain)
	}
}

// 12.4: texts of witnesses, one behind the other, are all of them.
func TestTextsOneBehindTheOther(t *testing.T) {
	r := rand.New(rand.NewSource(130))
	for range 3000 {
		z := size{r.Intn(4), r.Intn(4)}
		var list []api.Witness
		s := ""
		for range r.Intn(12) {
			w := witnessBy(z, r.Intn)
			list = append(list, w)
			s += textBy(t, w, z)
		}
		readsAll(t, s, z, list...)
		if len(list) > 1 {
			unread(t, s, z, len(textBy(t, list[0], z)), api.ErrForm)
		}
	}
}

// 12.4: each text of a witness is its alone: no beginning of it, and nothing longer, is read as a witness.
func TestNoOtherLength(t *testing.T) {
	r := rand.New(rand.NewSource(131))
	for range 1000 {
		z := sizes()[r.Intn(len(sizes()))]
		s := textBy(t, witnessBy(z, r.Intn), z)
		for n := range len(s) {
			if w, f := stim.Read(s[:n], z.latches, z.inputs); f.Code == api.OK || !same(w, api.Witness{}) {
				t.Fatalf("%q, %v: %s", s[:n], z, brief(w, f))
			}
		}
		unread(t, s+samples.SomeByte("01.\nbx", r.Intn), z, len(s), api.ErrForm)
	}
}

// 12.3, 12.4: All reads what Read reads of each text alone, whatever stands ahead of it.
func TestAllAsRead(t *testing.T) {
	r := rand.New(rand.NewSource(132))
	seen := map[bool]int{}
	for range 10000 {
		z := sizes()[r.Intn(len(sizes()))]
		ahead := []api.Witness{witnessBy(z, r.Intn), witnessBy(z, r.Intn)}
		head := textBy(t, ahead[0], z) + textBy(t, ahead[1], z)
		s := samples.Changed(textBy(t, witnessBy(z, r.Intn), z), "01x2bj. \nc9", r.Intn)
		w, f := stim.Read(s, z.latches, z.inputs)
		one, g := stim.All(s, z.latches, z.inputs)
		// What stands behind a point's line is All's next witness.
		if s == "" || f != g && f.Code == api.ErrForm {
			continue
		}
		seen[f.Code == api.OK]++
		if f.Code == api.OK {
			readsAll(t, head+s, z, append(slices.Clone(ahead), w)...)
			if len(one) != 1 || !same(one[0], w) {
				t.Fatalf("%q, %v: %s, want %s", s, z, brief(one), brief(w))
			}
		} else {
			unreadAll(t, head+s, z, len(head)+f.At, f.Code)
		}
	}
	if min(seen[true], seen[false]) < 1000 {
		t.Errorf("%v", seen)
	}
}
