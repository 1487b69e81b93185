package sim_test

import (
	"math/rand"
	"slices"
	"testing"

	"trestle/api"
	"trestle/samples"
	"trestle/shape"
	"trestle/sim"
)

// 7.4: in whatever a circuit does, each gate is the conjunction of its literals, inputs and latches are what they were given, all else is false.
func TestValuesOfGates(t *testing.T) {
	r := rand.New(rand.NewSource(77))
	for range 5000 {
		c := samples.Circuit(r.Intn)
		state, row := samples.Truths(len(c.Latches), r.Intn), samples.Truths(len(c.Inputs), r.Intn)
		v, e := sim.Values(c, state, row)
		if e != api.OK || len(v) != c.Max+1 {
			t.Fatalf("%+v: %v, %v", c, v, e)
		}
		literal := func(l int) bool { return v[l/2] == (l%2 == 0) }
		rest := slices.Clone(v)
		for i, l := range c.Inputs {
			if v[l/2] != row[i] {
				t.Fatalf("the input %d of %+v by %v: %v", l, c, row, v)
			}
			rest[l/2] = false
		}
		for i, l := range c.Latches {
			if v[l.Lit/2] != state[i] {
				t.Fatalf("the latch %d of %+v in %v: %v", l.Lit, c, state, v)
			}
			rest[l.Lit/2] = false
		}
		for _, g := range c.Ands {
			if v[g.Out/2] != (literal(g.Left) && literal(g.Right)) {
				t.Fatalf("the gate %v of %+v: %v", g, c, v)
			}
			rest[g.Out/2] = false
		}
		if slices.Contains(rest, true) {
			t.Fatalf("what is not defined in %+v: %v", c, v)
		}
	}
}

// 7.5: from each of its states a run goes on as it would have begun there; up to each of its steps it is as if it ended there.
func TestRunsGoOn(t *testing.T) {
	r := rand.New(rand.NewSource(78))
	for range 1000 {
		c := samples.Circuit(r.Intn)
		tr := samples.Trace(c, 1+r.Intn(8), r.Intn)
		whole := run(t, c, tr)
		for i := range tr.Inputs {
			runs(t, c, api.Trace{Init: whole[i].State, Inputs: tr.Inputs[i:], Loop: -1}, whole[i:])
			runs(t, c, api.Trace{Init: tr.Init, Inputs: tr.Inputs[:i+1], Loop: i}, whole[:i+1])
		}
	}
}

// 7.5: where a run comes to a state again, the rows since then, put behind it, tell the same again.
func TestLoopsComeRound(t *testing.T) {
	// Two latches that count from 0 to 3 and on, where the input lets them: 13 and 21 are: unlike.
	c := api.Circuit{
		Max: 10, Inputs: []int{2}, Latches: []api.Latch{{Lit: 4, Next: 13}, {Lit: 6, Next: 21}}, Bads: []int{16, 14}, Fairness: []int{4, 6},
		Ands: []api.And{
			{Out: 8, Left: 2, Right: 5}, {Out: 10, Left: 3, Right: 4}, {Out: 12, Left: 9, Right: 11}, {Out: 14, Left: 2, Right: 4},
			{Out: 16, Left: 14, Right: 7}, {Out: 18, Left: 15, Right: 6}, {Out: 20, Left: 17, Right: 19},
		},
	}
	for _, input := range allTruths(6) {
		tr := api.Trace{Init: samples.Bits("00"), Loop: -1}
		count := 0
		first := map[int]int{}
		for n, is := range input {
			if at, ok := first[count]; ok {
				loop := tr.Inputs[at:]
				m := run(t, c, tr)
				long := api.Trace{Init: tr.Init, Inputs: slices.Concat(tr.Inputs, loop, loop), Loop: n}
				runs(t, c, long, slices.Concat(m, m[at:], m[at:]))
			}
			first[count] = n
			state := []bool{count%2 == 1, count/2 == 1}
			if is {
				count = (count + 1) % 4
			}
			next(t, c, state, []bool{is}, []bool{count%2 == 1, count/2 == 1})
			tr.Inputs = append(tr.Inputs, []bool{is})
		}
	}
}

// 7.3: what Run tells of a step is what Next and Holds say of it.
func TestRunsAreSteps(t *testing.T) {
	r := rand.New(rand.NewSource(80))
	for range 1000 {
		c := samples.Circuit(r.Intn)
		tr := samples.Trace(c, 1+r.Intn(8), r.Intn)
		state := tr.Init
		for i, m := range run(t, c, tr) {
			if !slices.Equal(m.State, state) {
				t.Fatalf("%+v by %+v: the state %d is %v, want %v", c, tr, i, m.State, state)
			}
			holds(t, c, state, tr.Inputs[i], m.Holds)
			state, _ = sim.Next(c, state, tr.Inputs[i])
		}
	}
}

// told is what the calls tell of a circuit in the first step of a trace, and of the whole run.
type told struct {
	values, next  []bool
	holds, starts bool
	run           []api.Moment
}

// toldOf asks all calls.
func toldOf(t *testing.T, c api.Circuit, tr api.Trace) told {
	t.Helper()
	row := tr.Inputs[0]
	v, e := sim.Values(c, tr.Init, row)
	n, f := sim.Next(c, tr.Init, row)
	h, g := sim.Holds(c, tr.Init, row)
	s, k := sim.Starts(c, tr.Init)
	if e != api.OK || f != api.OK || g != api.OK || k != api.OK {
		t.Fatalf("%+v, %+v: %v, %v, %v, %v", c, tr, e, f, g, k)
	}
	return told{v, n, h, s, run(t, c, tr)}
}

// tells holds what the calls tell against what they told of a like circuit.
func tells(t *testing.T, c api.Circuit, tr api.Trace, want told) {
	t.Helper()
	values(t, c, tr.Init, tr.Inputs[0], want.values)
	next(t, c, tr.Init, tr.Inputs[0], want.next)
	holds(t, c, tr.Init, tr.Inputs[0], want.holds)
	starts(t, c, tr.Init, want.starts)
	runs(t, c, tr, want.run)
}

// 7.5: in whichever order the gates stand, and whichever one of a gate's literals is Left, all calls tell the same.
func TestOrderOfGates(t *testing.T) {
	r := rand.New(rand.NewSource(81))
	for range 1500 {
		c := samples.Circuit(r.Intn)
		tr := samples.Trace(c, 1+r.Intn(4), r.Intn)
		want := toldOf(t, c, tr)
		other := samples.Clone(c)
		for range 3 {
			r.Shuffle(len(other.Ands), func(i, k int) { other.Ands[i], other.Ands[k] = other.Ands[k], other.Ands[i] })
			tells(t, other, tr, want)
		}
		for i, g := range other.Ands {
			other.Ands[i].Left, other.Ands[i].Right = g.Right, g.Left
		}
		tells(t, other, tr, want)
	}
}

// 7.5: renumbered, a circuit tells the same; the values of variables that are defined go with the map.
func TestRenumbered(t *testing.T) {
	r := rand.New(rand.NewSource(82))
	for range 3000 {
		c := samples.Circuit(r.Intn)
		tr := samples.Trace(c, 1+r.Intn(4), r.Intn)
		other, literals, e := shape.Renumber(c)
		if e != api.OK {
			t.Fatalf("%+v: %v", c, e)
		}
		want := toldOf(t, c, tr)
		moved := make([]bool, other.Max+1)
		for old, l := range literals {
			if l > 0 {
				moved[l/2] = want.values[old]
			}
		}
		want.values = moved
		tells(t, other, tr, want)
	}
}

// 7.1 to 7.3: what stands in lists that are not named there changes nothing: outputs, symbols, comments, and of a step resets.
func TestWhatIsNotNamed(t *testing.T) {
	r := rand.New(rand.NewSource(83))
	for range 500 {
		c := samples.Circuit(r.Intn)
		tr := samples.Trace(c, 1+r.Intn(4), r.Intn)
		other := samples.Clone(c)
		other.Outputs, other.Symbols, other.Comments = []int{1}, []api.Symbol{{Kind: 'o', Name: "x"}}, []string{"x"}
		want := toldOf(t, c, tr)
		tells(t, other, tr, want)
		for i, l := range other.Latches {
			other.Latches[i].Reset = [...]int{0, 1, l.Lit}[r.Intn(3)]
		}
		want.starts = startsOf(other, tr.Init)
		tells(t, other, tr, want)
	}
}
