package stim_test

import (
	"slices"
	"testing"

	"trestle/api"
	"trestle/samples"
	"trestle/stim"
)

// guarded is a copy of a witness with something in the spare room of its lists.
func guarded(w api.Witness, by bool) api.Witness {
	return api.Witness{Status: w.Status, Props: samples.GuardedList(w.Props, api.Prop{Kind: 'z', At: 98}), Trace: samples.GuardedTrace(w.Trace, by)}
}

// whole is a copy of a witness with all that stands in the spare room of its lists.
func whole(w api.Witness) api.Witness {
	return api.Witness{Status: w.Status, Props: slices.Clone(w.Props[:cap(w.Props)]), Trace: samples.WholeTrace(w.Trace)}
}

// spoil writes over all that belongs to a witness's lists, spare room too.
func spoil(w api.Witness) {
	samples.Fill(w.Props, api.Prop{Kind: 'y', At: 99})
	samples.FlipTrace(w.Trace)
}

// spoilAll writes over all that belongs to a list of witnesses.
func spoilAll(l []api.Witness) {
	for _, w := range l {
		spoil(w)
	}
	samples.Fill(l, api.Witness{Status: 99})
}

// handedIn is witnesses that may be of a circuit of two latches and one input, and ones that may not.
func handedIn() []api.Witness {
	tr := samples.Told(1, "10", "0", "1", "0")
	return []api.Witness{
		said(0, bad(0)), said(2, justice(3), bad(3), bad(1)), shown(tr, bad(2), justice(0)), shown(samples.Told(-1, "01", "1"), bad(16383)),
		{}, said(3, bad(0)), said(0), said(0, bad(5), bad(5)), said(2, bad(-1), justice(1)), said(0, bads(0, api.MaxItems+1)...), {Status: 0, Props: bads(0, 2), Trace: tr}, said(1, bad(0)),
		shown(samples.Told(1, "1", "0", "1", "0"), bad(2)), shown(samples.Told(1, "10", "0", "11", "0"), bad(2)), shown(samples.Told(3, "10", "0", "1", "0"), bad(2)),
	}
}

// R4, R7: what is handed in to Check and Print is not changed, spare room too, nor read behind its length, nor kept; the same call tells the same.
func TestMemoryOfArguments(t *testing.T) {
	told := map[api.Errno]int{}
	for _, x := range handedIn() {
		for _, z := range []size{{2, 1}, {-1, 1}} {
			want, code := stim.Print(x, z.latches, z.inputs)
			told[code]++
			for _, by := range []bool{false, true} {
				w := guarded(x, by)
				was := whole(w)
				if e := stim.Check(w, z.latches, z.inputs); e != code {
					t.Fatalf("%s: %v, want %v", brief(x), e, code)
				}
				s, e := stim.Print(w, z.latches, z.inputs)
				if !same(whole(w), was) {
					t.Fatalf("%s: changed what was handed in: %s, was %s", brief(x), brief(whole(w)), brief(was))
				}
				spoil(w)
				stim.Print(w, z.latches, z.inputs)
				again, f := stim.Print(x, z.latches, z.inputs)
				if s != want || e != code || again != want || f != code {
					t.Fatalf("%s: %q, %v, then %q, %v, want %q, %v", brief(x), s, e, again, f, want, code)
				}
			}
		}
	}
	if told[api.OK] != 4 || len(told) != 6 {
		t.Errorf("%v", told)
	}
}

// handedText is a text of several witnesses, of a circuit of two latches and two inputs, and these; their lists tell the same.
func handedText() (string, []api.Witness) {
	one := shown(samples.Told(0, "10", "10", "10", "10"), bad(1), justice(1))
	return "1\nb1 j1\n10\n10\n10\n1x\nc loop 0\n.\n", []api.Witness{one, one, one}
}

// R4, R7: what is read is new memory each time: written over, it changes no later answer, and none ahead of it.
func TestMemoryOfAnswers(t *testing.T) {
	s, want := handedText()
	z := size{2, 2}
	first, _ := stim.Read(s, z.latches, z.inputs)
	second, _ := stim.Read(s, z.latches, z.inputs)
	spoil(second)
	if !same(first, want[0]) {
		t.Errorf("two answers share memory: %s", brief(first))
	}
	reads(t, s, z, want[0])
	all, _ := stim.All(s+s+s, z.latches, z.inputs)
	other, _ := stim.All(s+s+s, z.latches, z.inputs)
	spoilAll(other)
	if !slices.EqualFunc(all, want, same) {
		t.Errorf("two answers share memory: %s", brief(all))
	}
	readsAll(t, s+s+s, z, want...)
	unreadBoth(t, "0\nb0 b0\n.\n", z, 2, api.ErrProp)
	reads(t, s, z, want[0])
}

// listsOf is all lists of truths of some witnesses, each with its spare room.
func listsOf(l []api.Witness) [][]bool {
	var out [][]bool
	for _, w := range l {
		for _, row := range append([][]bool{w.Trace.Init}, w.Trace.Inputs...) {
			out = append(out, row[:cap(row)])
		}
	}
	return out
}

// R4: no two lists of one answer share memory, spare room too, also where they tell the same.
func TestListsOfOneAnswer(t *testing.T) {
	s, want := handedText()
	one, _ := stim.Read(s, 2, 2)
	all, _ := stim.All(s+s+s, 2, 2)
	for _, l := range [][]api.Witness{{one}, all} {
		rows := listsOf(l)
		for i, row := range rows {
			var kept [][]bool
			for _, other := range rows {
				kept = append(kept, slices.Clone(other))
			}
			samples.Flip(row)
			for k, other := range rows {
				if k != i && !slices.Equal(other, kept[k]) {
					t.Errorf("the lists %d and %d share memory", i, k)
				}
			}
			samples.Flip(row)
		}
		for i, w := range l {
			samples.Fill(w.Props, bad(100+i))
			samples.Fill(w.Trace.Inputs, samples.Bits([]string{"0", "1", "11"}[i]))
		}
		for i, w := range l {
			if !slices.Equal(w.Props, []api.Prop{bad(100 + i), bad(100 + i)}) {
				t.Errorf("the properties of %d are shared: %v", i, w.Props)
			}
			for _, row := range w.Trace.Inputs {
				if !slices.Equal(row, samples.Bits([]string{"0", "1", "11"}[i])) {
					t.Errorf("the rows of %d are shared: %v", i, w.Trace.Inputs)
				}
			}
		}
	}
	readsAll(t, s+s+s, size{2, 2}, want...)
}

// R4: a witness whose lists share memory with one another is told as any.
func TestSharedWitness(t *testing.T) {
	truths, props := samples.Bits("101"), bads(0, 3)
	w := shown(api.Trace{Init: truths[:2], Inputs: [][]bool{truths[:2], truths[1:], truths[:2]}, Loop: 2}, props[1:]...)
	tells(t, w, size{2, 2}, "1\nb1 b2\n10\n10\n01\n10\nc loop 2\n.\n")
	if !slices.Equal(truths, samples.Bits("101")) || !slices.Equal(props, bads(0, 3)) {
		t.Errorf("changed what was handed in: %v, %v", truths, props)
	}
}

// R3: lists that are nil and lists that are empty are the same.
func TestEmptyLists(t *testing.T) {
	tells(t, api.Witness{Props: bads(0, 1), Trace: api.Trace{Init: []bool{}, Inputs: [][]bool{}}}, size{2, 2}, "0\nb0\n.\n")
	tells(t, shown(api.Trace{Init: []bool{}, Inputs: [][]bool{{}, nil}, Loop: -1}, bad(0)), size{}, "1\nb0\n\n\n\n.\n")
	tells(t, shown(api.Trace{Inputs: make([][]bool, 2), Loop: -1}, bad(0)), size{}, "1\nb0\n\n\n\n.\n")
	for _, props := range [][]api.Prop{nil, {}} {
		refuses(t, "no properties", said(0, props...), size{}, api.ErrProp)
	}
}
