package samples

import (
	"slices"

	"trestle/api"
)

// AllLists is all lists of n members, each of which is one of these.
func AllLists[T any](n int, of ...T) [][]T {
	out := [][]T{{}}
	for range n {
		var longer [][]T
		for _, l := range out {
			for _, x := range of {
				longer = append(longer, append(slices.Clone(l), x))
			}
		}
		out = longer
	}
	return out
}

// Bits is truths, told as a text of 0 and 1.
func Bits(s string) []bool {
	out := make([]bool, len(s))
	for i := range s {
		out[i] = s[i] == '1'
	}
	return out
}

// Told is a trace, its first state and its rows told as texts of 0 and 1.
func Told(loop int, first string, rows ...string) api.Trace {
	t := api.Trace{Init: Bits(first), Loop: loop}
	for _, s := range rows {
		t.Inputs = append(t.Inputs, Bits(s))
	}
	return t
}

// Truths is n truths, each as pick says.
func Truths(n int, pick func(n int) int) []bool {
	out := make([]bool, n)
	for i := range out {
		out[i] = pick(2) == 1
	}
	return out
}

// Trace is a trace of so many rows that fits a circuit, with any of the loops that it may have.
func Trace(c api.Circuit, rows int, pick func(n int) int) api.Trace {
	t := api.Trace{Init: Truths(len(c.Latches), pick)}
	for range rows {
		t.Inputs = append(t.Inputs, Truths(len(c.Inputs), pick))
	}
	t.Loop = pick(rows+1) - 1
	return t
}

// GuardedList is a copy of a list with members that are by in its spare room.
func GuardedList[T any](l []T, by T) []T {
	g := roomy(l)
	Fill(g, by)
	return append(g[:0], l...)
}

// GuardedTrace is a copy of a trace with something in the spare room of its lists: truths that are by, and rows of these.
func GuardedTrace(t api.Trace, by bool) api.Trace {
	g := api.Trace{Init: GuardedList(t.Init, by), Inputs: roomy(t.Inputs), Loop: t.Loop}
	Fill(g.Inputs, []bool{by})
	for i, row := range t.Inputs {
		g.Inputs[i] = GuardedList(row, by)
	}
	return g
}

// WholeTrace is copies of a trace's lists with all that stands in their spare room.
func WholeTrace(t api.Trace) api.Trace {
	w := api.Trace{Init: slices.Clone(t.Init[:cap(t.Init)]), Loop: t.Loop}
	for _, row := range t.Inputs[:cap(t.Inputs)] {
		w.Inputs = append(w.Inputs, slices.Clone(row[:cap(row)]))
	}
	return w
}

// SameTrace tells whether two traces have the same members.
func SameTrace(a, b api.Trace) bool {
	return slices.Equal(a.Init, b.Init) && slices.EqualFunc(a.Inputs, b.Inputs, slices.Equal) && a.Loop == b.Loop
}

// Flip turns all truths that belong to a list, spare room too: what shares memory with it is not the same any more.
func Flip(l []bool) {
	l = l[:cap(l)]
	for i := range l {
		l[i] = !l[i]
	}
}

// FlipTrace turns all truths of a trace's lists, and puts nothing in place of its rows.
func FlipTrace(t api.Trace) {
	Flip(t.Init)
	for _, row := range t.Inputs {
		Flip(row)
	}
	Fill(t.Inputs, nil)
}
