package stim_test

import (
	"fmt"
	"slices"
	"testing"

	"trestle/api"
	"trestle/samples"
	"trestle/stim"
)

// size is how many latches and inputs a circuit has.
type size struct{ latches, inputs int }

// sizes is neither latches nor inputs, some of one of them alone, and some of both.
func sizes() []size {
	return []size{{0, 0}, {1, 0}, {0, 1}, {1, 1}, {3, 0}, {0, 2}, {2, 3}}
}

// trace is a trace of so many rows that fits a circuit of that size.
func (z size) trace(rows int, pick func(n int) int) api.Trace {
	return samples.Trace(api.Circuit{Latches: make([]api.Latch, z.latches), Inputs: make([]int, z.inputs)}, rows, pick)
}

func bad(at int) api.Prop     { return api.Prop{Kind: 'b', At: at} }
func justice(at int) api.Prop { return api.Prop{Kind: 'j', At: at} }

// bads is the bads from one on, n of them.
func bads(from, n int) []api.Prop {
	out := make([]api.Prop, n)
	for i := range out {
		out[i] = bad(from + i)
	}
	return out
}

// said is a witness without a trace.
func said(status int, props ...api.Prop) api.Witness {
	return api.Witness{Status: status, Props: props}
}

// shown is a witness of the Status 1 with a trace.
func shown(tr api.Trace, props ...api.Prop) api.Witness {
	return api.Witness{Status: 1, Props: props, Trace: tr}
}

// same tells whether two witnesses have the same members.
func same(a, b api.Witness) bool {
	return a.Status == b.Status && slices.Equal(a.Props, b.Props) && samples.SameTrace(a.Trace, b.Trace)
}

// brief is something as it can be told, if it is too long.
func brief(x ...any) string {
	s := fmt.Sprintf("%+v", x)
	if len(s) > 3000 {
		return s[:1500] + " .. " + s[len(s)-500:]
	}
	return s
}

// tells holds all calls against a witness that may be, and its text.
func tells(t *testing.T, w api.Witness, z size, text string) {
	t.Helper()
	if e := stim.Check(w, z.latches, z.inputs); e != api.OK {
		t.Fatalf("%s: %v", brief(w, z), e)
	}
	if s, e := stim.Print(w, z.latches, z.inputs); s != text || e != api.OK {
		t.Fatalf("%s: %s, %v, want %s", brief(w, z), samples.Short(s), e, samples.Short(text))
	}
	reads(t, text, z, w)
}

// refuses holds the calls of a witness against the error that is wanted; beside it there must be nothing.
func refuses(t *testing.T, what any, w api.Witness, z size, want api.Errno) {
	t.Helper()
	if e := stim.Check(w, z.latches, z.inputs); e != want {
		t.Fatalf("%s: %s: %v, want %v", brief(what), brief(w, z), e, want)
	}
	if s, e := stim.Print(w, z.latches, z.inputs); s != "" || e != want {
		t.Fatalf("%s: %s: %s, %v, want %v", brief(what), brief(w, z), samples.Short(s), e, want)
	}
}

// reads holds Read, and All, of a text against the one witness that it is.
func reads(t *testing.T, s string, z size, want api.Witness) {
	t.Helper()
	if w, f := stim.Read(s, z.latches, z.inputs); !same(w, want) || f != (api.Fault{}) {
		t.Fatalf("%s, %v: %s, want %s", samples.Short(s), z, brief(w, f), brief(want))
	}
	readsAll(t, s, z, want)
}

// readsAll holds All of a text against the witnesses that stand in it.
func readsAll(t *testing.T, s string, z size, want ...api.Witness) {
	t.Helper()
	if l, f := stim.All(s, z.latches, z.inputs); !slices.EqualFunc(l, want, same) || f != (api.Fault{}) {
		t.Fatalf("%s, %v: %s, want %s", samples.Short(s), z, brief(l, f), brief(want))
	}
}

// unread holds Read of a text against the fault that is wanted; beside it there must be nothing.
func unread(t *testing.T, s string, z size, at int, code api.Errno) {
	t.Helper()
	w, f := stim.Read(s, z.latches, z.inputs)
	if want := (api.Fault{At: at, Code: code}); f != want || !same(w, api.Witness{}) {
		t.Fatalf("%s, %v: %s, want %v", samples.Short(s), z, brief(w, f), want)
	}
}

// unreadAll holds All of a text against the fault that is wanted; beside it there must be nothing.
func unreadAll(t *testing.T, s string, z size, at int, code api.Errno) {
	t.Helper()
	l, f := stim.All(s, z.latches, z.inputs)
	if want := (api.Fault{At: at, Code: code}); f != want || len(l) > 0 {
		t.Fatalf("%s, %v: %s, want %v", samples.Short(s), z, brief(l, f), want)
	}
}

// unreadBoth holds Read and All of a text against the same fault.
func unreadBoth(t *testing.T, s string, z size, at int, code api.Errno) {
	t.Helper()
	unread(t, s, z, at, code)
	unreadAll(t, s, z, at, code)
}

// witnessBy is a witness that may be, of a circuit of that size, by chance.
func witnessBy(z size, pick func(n int) int) api.Witness {
	w := api.Witness{Status: pick(4) % 3}
	for range 1 + pick(3) {
		p := api.Prop{Kind: "bj"[pick(2)], At: [...]int{0, 1, 2, 10, 9999, api.MaxItems - 1}[pick(6)]}
		if !slices.Contains(w.Props, p) {
			w.Props = append(w.Props, p)
		}
	}
	if w.Status == 1 {
		w.Trace = z.trace(1+pick(4), pick)
	}
	return w
}

// textBy is what Print tells of a witness that may be.
func textBy(t *testing.T, w api.Witness, z size) string {
	t.Helper()
	s, e := stim.Print(w, z.latches, z.inputs)
	if e != api.OK {
		t.Fatalf("%s: %v", brief(w, z), e)
	}
	return s
}
