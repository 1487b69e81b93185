package sim_test

import (
	"math/rand"
	"slices"
	"testing"

	"trestle/api"
	"trestle/samples"
)

// 7.1: the examples of the chapter, and steps of a circuit whose gates stand ahead of those that they use, and of which some variables are not defined.
func TestStepsByHand(t *testing.T) {
	values(t, turning(), samples.Bits("0"), nil, samples.Bits("00"))
	next(t, turning(), samples.Bits("0"), nil, samples.Bits("1"))
	next(t, turning(), samples.Bits("1"), nil, samples.Bits("0"))
	held := api.Circuit{Max: 2, Inputs: []int{2}, Latches: []api.Latch{{Lit: 4, Next: 2}}, Constraints: []int{3}}
	for _, state := range rows("0", "1") {
		holds(t, held, state, samples.Bits("1"), false)
		holds(t, held, state, samples.Bits("0"), true)
		next(t, held, state, samples.Bits("1"), samples.Bits("1"))
		next(t, held, state, samples.Bits("0"), samples.Bits("0"))
	}
	// The inputs are 4 and 1, the latches 3, 7 and 2; 9 is: not 1, and 3; 11: 9 and 9; 10: 11, and not 9; 12: false. 5, 6 and 8 are not defined.
	for _, x := range []struct{ state, row, values, next string }{
		{"000", "00", "0000000000000", "101"},
		{"100", "10", "0001100001010", "111"},
		{"010", "11", "0100100100000", "110"},
		{"111", "01", "0111000100000", "100"},
		{"101", "00", "0011000001010", "101"},
	} {
		c := samples.Right()
		values(t, c, samples.Bits(x.state), samples.Bits(x.row), samples.Bits(x.values))
		next(t, c, samples.Bits(x.state), samples.Bits(x.row), samples.Bits(x.next))
		holds(t, c, samples.Bits(x.state), samples.Bits(x.row), false)
	}
}

// 7.1, R3: circuits of nothing, with variables that are not defined, and with one thing.
func TestStepsOfLittle(t *testing.T) {
	for _, none := range [][]bool{nil, {}} {
		for _, most := range []int{0, 1, 7, api.MaxVar} {
			c := api.Circuit{Max: most}
			values(t, c, none, none, make([]bool, most+1))
			next(t, c, none, none, nil)
			holds(t, c, none, none, true)
			starts(t, c, none, true)
			runs(t, c, api.Trace{Inputs: [][]bool{none}}, []api.Moment{{Holds: true}})
		}
	}
	for _, c := range []api.Circuit{
		{Max: 1, Inputs: []int{2}}, {Max: 3, Inputs: []int{4}}, {Max: 3, Inputs: []int{6}},
		{Max: 1, Latches: []api.Latch{{Lit: 2, Next: 2}}}, {Max: 3, Latches: []api.Latch{{Lit: 4, Next: 5}}},
		{Max: 1, Ands: []api.And{{Out: 2, Left: 1, Right: 1}}}, {Max: 3, Ands: []api.And{{Out: 6, Left: 1, Right: 0}}},
	} {
		inAllSteps(t, c)
	}
	values(t, api.Circuit{Max: 3, Ands: []api.And{{Out: 4, Left: 1, Right: 1}}}, nil, nil, samples.Bits("0010"))
}

// 7.4: a gate of any two literals, constants too, negated or not, is true where both are; inputs and latches are what they were given.
func TestGates(t *testing.T) {
	// In each step of an input 2 and a latch 4 the values of the literals 0 to 5.
	literals := map[[2]string]string{{"0", "0"}: "010101", {"0", "1"}: "010110", {"1", "0"}: "011001", {"1", "1"}: "011010"}
	for step, value := range literals {
		row, state := samples.Bits(step[0]), samples.Bits(step[1])
		for left := range value {
			for right := range value {
				c := api.Circuit{Max: 3, Inputs: []int{2}, Latches: []api.Latch{{Lit: 4, Next: left}}, Ands: []api.And{{Out: 6, Left: left, Right: right}}, Constraints: []int{right}}
				both := value[left] == '1' && value[right] == '1'
				values(t, c, state, row, []bool{false, row[0], state[0], both})
				next(t, c, state, row, []bool{value[left] == '1'})
				holds(t, c, state, row, value[right] == '1')
			}
		}
	}
}

// 7.1, 7.4: all circuits of two gates over an input and a latch, in both orders.
func TestTwoGates(t *testing.T) {
	for _, c := range samples.TwoGates() {
		for i := range 4 {
			state, row := []bool{i%2 == 1}, []bool{i/2 == 1}
			values(t, c, state, row, valuesOf(c, state, row))
			next(t, c, state, row, nextOf(c, state, row))
		}
		slices.Reverse(c.Ands)
		inAllSteps(t, c)
	}
}

// 7.1: a constant stands wherever a literal may.
func TestConstants(t *testing.T) {
	for l := range 2 {
		is := l == 1
		c := api.Circuit{
			Max: 2, Latches: []api.Latch{{Lit: 2, Next: l}}, Outputs: []int{l}, Bads: []int{l}, Constraints: []int{l},
			Justice: [][]int{{l}}, Fairness: []int{l}, Ands: []api.And{{Out: 4, Left: l, Right: 1}},
		}
		m := api.Moment{Holds: is}
		if is {
			m.Bads, m.Fair = []int{0}, []api.Spot{{}, {At: -1}}
		}
		for _, state := range rows("0", "1") {
			m.State = state
			values(t, c, state, nil, []bool{false, state[0], is})
			next(t, c, state, nil, []bool{is})
			holds(t, c, state, nil, is)
			runs(t, c, api.Trace{Init: state, Inputs: [][]bool{nil}}, []api.Moment{m})
		}
	}
}

// 7.1: a step holds if all constraints are true, however many there are, and whichever is not.
func TestConstraints(t *testing.T) {
	for n := range 5 {
		c := api.Circuit{Max: 4, Inputs: []int{2, 4, 6, 8}}
		for i := range n {
			c.Constraints = append(c.Constraints, 2*i+2)
		}
		for _, row := range allTruths(4) {
			holds(t, c, nil, row, !slices.Contains(row[:n], false))
		}
	}
	// The same one again, and one with its contrary.
	c := api.Circuit{Max: 1, Inputs: []int{2}, Constraints: []int{2, 2, 1}}
	holds(t, c, nil, samples.Bits("1"), true)
	holds(t, c, nil, samples.Bits("0"), false)
	c.Constraints = []int{2, 3}
	holds(t, c, nil, samples.Bits("1"), false)
	holds(t, c, nil, samples.Bits("0"), false)
}

// 7.1: rows and states go by the order of the lists, not by the variables.
func TestOrderOfLists(t *testing.T) {
	c := api.Circuit{Max: 5, Inputs: []int{8, 2}, Latches: []api.Latch{{Lit: 10, Next: 8}, {Lit: 4, Next: 10}, {Lit: 6, Next: 2}}}
	values(t, c, samples.Bits("100"), samples.Bits("10"), samples.Bits("000011"))
	values(t, c, samples.Bits("011"), samples.Bits("01"), samples.Bits("011100"))
	next(t, c, samples.Bits("100"), samples.Bits("10"), samples.Bits("110"))
	next(t, c, samples.Bits("011"), samples.Bits("01"), samples.Bits("001"))
	inAllSteps(t, c)
}

// chain is a circuit of an input and gates up to the greatest variable, each one true where the one ahead of it is.
func chain() api.Circuit {
	c := api.Circuit{Max: api.MaxVar, Inputs: []int{2}}
	for v := 2; v <= api.MaxVar; v++ {
		c.Ands = append(c.Ands, api.And{Out: 2 * v, Left: 2*v - 2, Right: 1})
	}
	c.Constraints = []int{2 * api.MaxVar}
	return c
}

// 7.1: as many gates as there may be, each of which uses the one behind it, or ahead of it.
func TestLongChains(t *testing.T) {
	c := chain()
	for range 2 {
		for _, is := range []bool{false, true} {
			want := slices.Repeat([]bool{is}, api.MaxVar+1)
			want[0] = false
			values(t, c, nil, []bool{is}, want)
			holds(t, c, nil, []bool{is}, is)
		}
		slices.Reverse(c.Ands)
	}
}

// shifter is a circuit of an input and latches up to the greatest variable, each of which takes what the one ahead of it was.
func shifter() api.Circuit {
	c := api.Circuit{Max: api.MaxVar, Inputs: []int{2}}
	for v := 2; v <= api.MaxVar; v++ {
		c.Latches = append(c.Latches, api.Latch{Lit: 2 * v, Next: 2*v - 2, Reset: v % 2})
	}
	return c
}

// 7.1, 7.2: as many latches, inputs and constraints as there may be.
func TestMostThings(t *testing.T) {
	c := shifter()
	r := rand.New(rand.NewSource(71))
	state := samples.Truths(len(c.Latches), r.Intn)
	values(t, c, state, samples.Bits("1"), slices.Concat(samples.Bits("01"), state))
	next(t, c, state, samples.Bits("1"), append(samples.Bits("1"), state[:len(state)-1]...))
	for i := range state {
		state[i] = i%2 == 1
	}
	starts(t, c, state, true)
	state[len(state)-1] = !state[len(state)-1]
	starts(t, c, state, false)
	c = api.Circuit{Max: api.MaxVar}
	for v := 1; v <= api.MaxVar; v++ {
		c.Inputs = append(c.Inputs, 2*v)
	}
	c.Constraints = c.Inputs
	row := slices.Repeat([]bool{true}, api.MaxVar)
	holds(t, c, nil, row, true)
	row[api.MaxVar-1] = false
	holds(t, c, nil, row, false)
	values(t, c, nil, row, append(samples.Bits("0"), row...))
}

// 7.1, 7.2: circuits by chance, in all their steps, do what the document's words say.
func TestStepsByChance(t *testing.T) {
	r := rand.New(rand.NewSource(72))
	held := map[bool]int{}
	for range 1500 {
		c := samples.Circuit(r.Intn)
		inAllSteps(t, c)
		held[holdsOf(c, make([]bool, len(c.Latches)), make([]bool, len(c.Inputs)))]++
	}
	if held[true] < 100 || held[false] < 100 {
		t.Errorf("steps hold or not: %v", held)
	}
}
