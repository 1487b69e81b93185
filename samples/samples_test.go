package samples_test

import (
	"math/rand"
	"slices"
	"strings"
	"testing"

	"trestle/api"
	"trestle/ascii"
	"trestle/binary"
	"trestle/print"
	"trestle/samples"
	"trestle/shape"
	"trestle/words"
)

// Circuits by chance are right, the same ones by the same picks; each list has something in some of them, and nothing in others.
func TestCircuit(t *testing.T) {
	const n = 500
	r, again := rand.New(rand.NewSource(1)), rand.New(rand.NewSource(1))
	var some [10]int
	for range n {
		c := samples.Circuit(r.Intn)
		if at, e := shape.Check(c); e != api.OK {
			t.Fatalf("%+v: %d, %v", c, at, e)
		}
		if d := samples.Circuit(again.Intn); !shape.Same(c, d) {
			t.Fatalf("%+v, then %+v", c, d)
		}
		for i, l := range [...]int{
			len(c.Inputs), len(c.Latches), len(c.Outputs), len(c.Bads), len(c.Constraints), len(c.Justice), len(c.Fairness), len(c.Ands), len(c.Symbols), len(c.Comments),
		} {
			if l > 0 {
				some[i]++
			}
		}
	}
	for i, k := range some {
		if k < n/4 || k > n-10 {
			t.Errorf("the list %d has something in %d of %d", i, k, n)
		}
	}
}

// All circuits of two gates are right, and unlike; in some the first gate uses the second one.
func TestTwoGates(t *testing.T) {
	all := samples.TwoGates()
	seen := map[[2]api.And]int{}
	use := 0
	for _, c := range all {
		if at, e := shape.Check(c); e != api.OK {
			t.Fatalf("%+v: %d, %v", c, at, e)
		}
		seen[[2]api.And(c.Ands)]++
		if max(c.Ands[0].Left, c.Ands[0].Right) >= c.Ands[1].Out {
			use++
		}
	}
	if len(all) != 8*8*6*6 || len(seen) != len(all) || use != (8*8-6*6)*6*6 {
		t.Errorf("%d circuits, %d unlike, %d in which the first gate uses the second one", len(all), len(seen), use)
	}
}

// All circuits of two variables are right, and unlike; of each kind there are as many as there may be.
func TestTwoVariables(t *testing.T) {
	type kind struct{ inputs, latches, gates int }
	seen, bare, limited := map[string]int{}, map[kind]int{}, map[kind]int{}
	all := samples.TwoVariables()
	for _, c := range all {
		if at, e := shape.Check(c); e != api.OK || c.Max != 2 {
			t.Fatalf("%+v: %d, %v", c, at, e)
		}
		text, e := print.Text(c)
		if e != api.OK {
			t.Fatalf("%+v: %v", c, e)
		}
		seen[text]++
		k := kind{len(c.Inputs), len(c.Latches), len(c.Ands)}
		if len(c.Constraints) == 0 {
			bare[k]++
		} else {
			limited[k]++
		}
	}
	// One that stands alone can be either variable; of two gates not both may use the other one.
	want := map[kind]int{
		{0, 0, 0}: 1, {1, 0, 0}: 2, {0, 1, 0}: 2 * 4 * 3, {0, 0, 1}: 2 * 2 * 2,
		{2, 0, 0}: 1, {1, 1, 0}: 2 * 6 * 3, {1, 0, 1}: 2 * 4 * 4, {0, 2, 0}: 6 * 3 * 6 * 3, {0, 1, 1}: 2 * 6 * 3 * 4 * 4, {0, 0, 2}: 16*16 - 12*12,
	}
	for k, n := range want {
		if literals := 2 + 2*(k.inputs+k.latches+k.gates); bare[k] != n || limited[k] != n*literals {
			t.Errorf("%+v: %d without constraints, %d with one, want %d, %d", k, bare[k], limited[k], n, n*literals)
		}
	}
	if len(seen) != len(all) || len(bare) != len(want) || len(limited) != len(want) {
		t.Errorf("%d circuits, %d unlike, %d and %d kinds", len(all), len(seen), len(bare), len(limited))
	}
}

// All literals are those that there may be, each once; some of them, by chance, may be all of them, and none.
func TestLiterals(t *testing.T) {
	if all := samples.AllLiterals(api.Circuit{}); !slices.Equal(all, []int{0, 1}) {
		t.Errorf("%v", all)
	}
	c := api.Circuit{Max: 2}
	all := samples.AllLiterals(c)
	if !slices.Equal(all, []int{0, 1, 2, 3, 4, 5}) {
		t.Errorf("%v", all)
	}
	r := rand.New(rand.NewSource(11))
	counts, times := map[int]int{}, map[int]int{}
	for range 600 {
		some := samples.SomeLiterals(c, r.Intn)
		counts[len(some)]++
		for _, l := range some {
			times[l]++
		}
	}
	for n := range 5 {
		if counts[n] < 60 {
			t.Errorf("%d literals but %d times", n, counts[n])
		}
	}
	for _, l := range all {
		if times[l] < 100 {
			t.Errorf("the literal %d but %d times", l, times[l])
		}
	}
	if len(counts) != 5 || len(times) != 6 {
		t.Errorf("%v, %v", counts, times)
	}
}

// Texts in both formats are read as the circuit of which they tell, whatever is left out.
func TestTexts(t *testing.T) {
	r := rand.New(rand.NewSource(2))
	for range 500 {
		c := samples.Circuit(r.Intn)
		s := samples.Text(c, r.Intn)
		if d, f := ascii.Read(s); f != (api.Fault{}) || !shape.Same(c, d) {
			t.Fatalf("%s: %+v, %v, want %+v", samples.Short(s), d, f, c)
		}
		c, _, _ = shape.Renumber(c)
		s = samples.Bytes(c, r.Intn)
		if d, f := binary.Read(s); f != (api.Fault{}) || !shape.Same(c, d) {
			t.Fatalf("%s: %+v, %v, want %+v", samples.Short(s), d, f, c)
		}
	}
}

// A number's groups are those of layer 2.
func TestGroups(t *testing.T) {
	for bits := range 32 {
		for _, n := range [...]int{1<<bits - 1, 1 << bits, 1<<bits + 1} {
			if want, e := words.Put(n); e == api.OK && samples.Groups(n) != want {
				t.Errorf("%d: %q, want %q", n, samples.Groups(n), want)
			}
		}
	}
}

// A line that is right is none of the wrong ones; a changed text is often another one.
func TestChanges(t *testing.T) {
	r := rand.New(rand.NewSource(3))
	for _, s := range []string{"3", "2 3", "6 4 2"} {
		for _, wrong := range samples.WrongLines(s) {
			if wrong == s {
				t.Errorf("%q is not wrong", s)
			}
		}
		changed := 0
		for range 1000 {
			if samples.Changed(s+"\n1\n", "\n 0", r.Intn) != s+"\n1\n" {
				changed++
			}
		}
		if changed < 500 {
			t.Errorf("%q was changed but %d times", s, changed)
		}
	}
}

// A picker of 0 leaves all out of a text that may be left out.
func TestLeast(t *testing.T) {
	r := rand.New(rand.NewSource(4))
	for range 500 {
		c := samples.Circuit(r.Intn)
		if s, l := samples.Text(c, r.Intn), samples.Text(c, samples.Least); len(l) > len(s) {
			t.Fatalf("%s is longer than %s", samples.Short(l), samples.Short(s))
		}
	}
	c := api.Circuit{Max: 1, Latches: []api.Latch{{Lit: 2}}}
	if s := samples.Text(c, samples.Least); s != "aag 1 0 1 0 0\n2 0\n" {
		t.Errorf("%q", s)
	}
	if s := samples.Bytes(c, samples.Least); s != "aig 1 0 1 0 0\n0\n" {
		t.Errorf("%q", s)
	}
}

// The circuit with something of all is right, and by each thing that is done to it wrong.
func TestFaults(t *testing.T) {
	if at, e := shape.Check(samples.Right()); e != api.OK {
		t.Errorf("%d, %v", at, e)
	}
	for _, f := range samples.Faults() {
		if at, e := shape.Check(f.Circuit()); at != f.At || e != f.Want || e == api.OK {
			t.Errorf("%s: %d, %v, want %d, %v", f.Name, at, e, f.At, f.Want)
		}
	}
}

// Circuits with numbers put anywhere are refused, or not, as each of the codes says, and by no other one.
func TestAnyNumbers(t *testing.T) {
	r := rand.New(rand.NewSource(6))
	seen := map[api.Errno]int{}
	for range 20000 {
		_, e := shape.Check(samples.AnyNumbers(r.Intn))
		seen[e]++
	}
	for _, e := range samples.CodesOfNumbers() {
		if seen[e] < 10 {
			t.Errorf("%v came but %d times", e, seen[e])
		}
	}
	if len(seen) != len(samples.CodesOfNumbers()) {
		t.Errorf("%v", seen)
	}
}

// A guarded circuit has the same members, and whatever is written into its numbers, or behind one of its lists, is to be seen in the whole of it.
func TestGuarded(t *testing.T) {
	c := samples.Guarded(samples.Right())
	if !shape.Same(c, samples.Right()) || len(samples.NumbersOf(&c)) != 44 {
		t.Errorf("%+v, %d", c, len(samples.NumbersOf(&c)))
	}
	seen := func(what any, write func(c *api.Circuit)) {
		t.Helper()
		c := samples.Guarded(samples.Right())
		was := samples.Whole(c)
		write(&c)
		if shape.Same(samples.Whole(c), was) {
			t.Errorf("%v is not seen", what)
		}
	}
	for i := range samples.NumbersOf(&c) {
		seen(i, func(c *api.Circuit) { *samples.NumbersOf(c)[i] = -7 })
	}
	for i := range samples.Lists(c) {
		seen(i, func(c *api.Circuit) { l := samples.Lists(*c)[i]; l[len(l)-1] = -7 })
	}
	seen("a latch", func(c *api.Circuit) { _ = append(c.Latches, api.Latch{}) })
	seen("a gate", func(c *api.Circuit) { _ = append(c.Ands, api.And{}) })
	seen("a justice", func(c *api.Circuit) { _ = append(c.Justice, []int{5}) })
	seen("a symbol", func(c *api.Circuit) { _ = append(c.Symbols, api.Symbol{}) })
	seen("a comment", func(c *api.Circuit) { _ = append(c.Comments, "x") })
	// What is spoilt is seen in each list that has spare room alone.
	for i, spare := range []func(from, c *api.Circuit){
		func(from, c *api.Circuit) { c.Inputs = from.Inputs }, func(from, c *api.Circuit) { c.Outputs = from.Outputs }, func(from, c *api.Circuit) { c.Bads = from.Bads },
		func(from, c *api.Circuit) { c.Constraints = from.Constraints }, func(from, c *api.Circuit) { c.Fairness = from.Fairness }, func(from, c *api.Circuit) { c.Justice = from.Justice },
		func(from, c *api.Circuit) { c.Latches = from.Latches }, func(from, c *api.Circuit) { c.Ands = from.Ands },
		func(from, c *api.Circuit) { c.Symbols = from.Symbols }, func(from, c *api.Circuit) { c.Comments = from.Comments },
	} {
		from := samples.Guarded(api.Circuit{})
		var one api.Circuit
		spare(&from, &one)
		was := samples.Whole(one)
		samples.Spoil(one)
		if shape.Same(samples.Whole(one), was) || !shape.Same(one, api.Circuit{}) {
			t.Errorf("the list %d: what is spoilt is not seen: %+v", i, was)
		}
	}
}

// All lists are there once each, of no members too, and share no memory.
func TestAllLists(t *testing.T) {
	for n, want := range []int{1, 3, 9, 27} {
		seen := map[string]int{}
		for _, l := range samples.AllLists(n, 'a', 'b', 'c') {
			seen[string(l)]++
			samples.Fill(l, 'z')
		}
		if len(seen) != want {
			t.Errorf("%d members: %v", n, seen)
		}
		for s := range seen {
			if len(s) != n || strings.Contains(s, "z") {
				t.Errorf("%d members: %q", n, s)
			}
		}
	}
}

// Traces by chance have as many rows as they must, each loop that they may have, and are the same by the same picks.
func TestTrace(t *testing.T) {
	c := samples.Right()
	r, again := rand.New(rand.NewSource(5)), rand.New(rand.NewSource(5))
	loops := map[int]int{}
	for range 500 {
		tr := samples.Trace(c, 3, r.Intn)
		loops[tr.Loop]++
		if len(tr.Init) != 3 || len(tr.Inputs) != 3 || len(tr.Inputs[2]) != 2 || !samples.SameTrace(tr, samples.Trace(c, 3, again.Intn)) {
			t.Fatalf("%+v", tr)
		}
	}
	if len(loops) != 4 || min(loops[-1], loops[0], loops[1], loops[2]) < 50 {
		t.Errorf("loops %v", loops)
	}
}

// A guarded trace has the same members; whatever is written into it, or behind one of its lists, is to be seen in the whole of it, and a flipped one has no member left as it was.
func TestGuardedTrace(t *testing.T) {
	tr := api.Trace{Init: []bool{true, false}, Inputs: [][]bool{{false}, {true}}, Loop: 1}
	for _, by := range []bool{false, true} {
		g := samples.GuardedTrace(tr, by)
		if !samples.SameTrace(g, tr) {
			t.Fatalf("%+v, want %+v", g, tr)
		}
		was := samples.WholeTrace(g)
		for i, write := range []func(g *api.Trace){
			func(g *api.Trace) { g.Init[1] = true }, func(g *api.Trace) { g.Inputs[0][0] = true }, func(g *api.Trace) { g.Inputs[1] = nil }, func(g *api.Trace) { g.Loop = 0 },
			func(g *api.Trace) { _ = append(g.Init, !by) }, func(g *api.Trace) { _ = append(g.Inputs[1], !by) }, func(g *api.Trace) { _ = append(g.Inputs, nil) },
		} {
			g := samples.GuardedTrace(tr, by)
			write(&g)
			if samples.SameTrace(samples.WholeTrace(g), was) {
				t.Errorf("the write %d is not seen", i)
			}
		}
		rows := [][]bool{g.Inputs[0], g.Inputs[1]}
		samples.FlipTrace(g)
		if g.Init[0] || !g.Init[1] || !rows[0][0] || rows[1][0] || len(g.Inputs[0])+len(g.Inputs[1]) > 0 {
			t.Errorf("flipped: %+v, %v", g, rows)
		}
	}
	if !samples.SameTrace(tr, api.Trace{Init: []bool{true, false}, Inputs: [][]bool{{false}, {true}}, Loop: 1}) {
		t.Errorf("changed: %+v", tr)
	}
}
