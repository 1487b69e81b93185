package encode_test

import (
	"math/rand"
	"slices"
	"testing"

	"trestle/api"
	"trestle/samples"
)

// 15.2: the chapter's example, and the circuit's other steps.
func TestModelByExample(t *testing.T) {
	for row, want := range map[string]string{"10": "0100", "00": "0000", "01": "0010", "11": "0111"} {
		isModel(t, example(), nil, samples.Bits(row), samples.Bits(want))
	}
	turns := api.Circuit{Max: 1, Latches: []api.Latch{{Lit: 2, Next: 3}}, Bads: []int{2}}
	isModel(t, turns, samples.Bits("0"), nil, samples.Bits("00"))
	isModel(t, turns, samples.Bits("1"), nil, samples.Bits("01"))
}

// 15.2, R3: circuits of no variable, of no gate, and with variables that nothing defines, which are false.
func TestModelOfBareCircuits(t *testing.T) {
	for _, none := range [][]bool{nil, {}} {
		for _, most := range []int{0, 1, 7, api.MaxVar} {
			isModel(t, api.Circuit{Max: most}, none, none, make([]bool, most+1))
		}
	}
	isModel(t, api.Circuit{Max: 3, Inputs: []int{4}}, nil, samples.Bits("1"), samples.Bits("0010"))
	isModel(t, api.Circuit{Max: 4, Latches: []api.Latch{{Lit: 6, Next: 6}}}, samples.Bits("1"), nil, samples.Bits("00010"))
	isModel(t, api.Circuit{Max: 5, Ands: []api.And{{Out: 8, Left: 1, Right: 1}}}, nil, nil, samples.Bits("000010"))
}

// 15.2: the truths go by the variables, the state and the row by the lists, in whatever order these are; gates stand ahead of those that they use, and some variables are not defined.
func TestModelByHand(t *testing.T) {
	// The inputs are 4 and 1, the latches 3, 7 and 2; 9 is: not 1, and 3; 11: 9 and 9; 10: 11, and not 9; 12: false.
	for _, x := range []struct{ state, row, want string }{
		{"000", "00", "0000000000000"}, {"100", "10", "0001100001010"}, {"010", "11", "0100100100000"}, {"111", "01", "0111000100000"}, {"101", "00", "0011000001010"},
	} {
		isModel(t, samples.Right(), samples.Bits(x.state), samples.Bits(x.row), samples.Bits(x.want))
	}
	// The inputs are 2 and 1, the latches 4 and 3; 5 is: 1, and not 2; 6: 1, and not 5; 7: 3 and 4; 8: 5, and not 6.
	for _, x := range []struct{ state, row, want string }{
		{"00", "00", "000000000"}, {"10", "10", "001010000"}, {"01", "01", "010101001"}, {"11", "11", "011110110"}, {"11", "01", "010111011"},
	} {
		isModel(t, stepping(), samples.Bits(x.state), samples.Bits(x.row), samples.Bits(x.want))
	}
}

// 15.2: Step tells the latches and the inputs of any truths, whether these are a model or not: gates, variables that nothing defines, and what is to be false, are not asked.
func TestStepOfAnyTruths(t *testing.T) {
	for _, gate := range []string{"0", "1"} {
		for _, first := range []string{"0", "1"} {
			isStep(t, example(), samples.Bits(first+"10"+gate), nil, samples.Bits("10"))
			isStep(t, example(), samples.Bits(first+"01"+gate), nil, samples.Bits("01"))
			// The inputs 4 and 1, the latches 3, 7 and 2.
			isStep(t, samples.Right(), samples.Bits(first+"1010"+gate+gate+"1"+gate+gate+first+gate+gate), samples.Bits("110"), samples.Bits("01"))
			isStep(t, samples.Right(), samples.Bits(first+"0101"+gate+gate+"0"+gate+gate+first+gate+gate), samples.Bits("001"), samples.Bits("10"))
		}
	}
	isStep(t, api.Circuit{}, samples.Bits("1"), nil, nil)
	isStep(t, api.Circuit{Max: 2}, samples.Bits("111"), nil, nil)
	for _, model := range samples.AllLists(9, false, true) {
		isStep(t, stepping(), model, []bool{model[4], model[3]}, []bool{model[2], model[1]})
	}
	r := rand.New(rand.NewSource(166))
	for range 3000 {
		c := samples.Circuit(r.Intn)
		asWords(t, some("Step"), c, given{model: samples.Truths(c.Max+1, r.Intn)})
	}
}

// asLayer7 holds Model of all states by all rows against layer 7's values, and Step of each against the state and the row.
func asLayer7(t *testing.T, c api.Circuit) {
	t.Helper()
	inAllSteps(c, func(state, row []bool) {
		s, e := samples.StepOf(c, state, row)
		if e != api.OK {
			t.Fatalf("%+v: %v", c, e)
		}
		isModel(t, c, state, row, append(samples.Bits("0"), s.Values[1:]...))
	})
}

// 15.2: small circuits in all states by all rows: all of two gates over an input and a latch, in both orders, and circuits by chance.
func TestModelInAllSteps(t *testing.T) {
	for _, c := range samples.TwoGates() {
		asLayer7(t, c)
		slices.Reverse(c.Ands)
		asLayer7(t, c)
	}
	r := rand.New(rand.NewSource(167))
	for range 1000 {
		asLayer7(t, samples.Circuit(r.Intn))
	}
	asLayer7(t, stepping())
	asLayer7(t, samples.Right())
}

// 15.2: whether a state may begin, and whether its step holds, is not asked.
func TestWhatIsNotAsked(t *testing.T) {
	c := api.Circuit{Max: 2, Inputs: []int{2}, Latches: []api.Latch{{Lit: 4, Next: 5, Reset: 1}}, Constraints: []int{0, 3}}
	isModel(t, c, samples.Bits("0"), samples.Bits("1"), samples.Bits("010"))
	isModel(t, c, samples.Bits("1"), samples.Bits("1"), samples.Bits("011"))
}

// 15.2: as many gates, latches and inputs as there may be; then there are more truths than a list has members otherwise.
func TestModelOfMost(t *testing.T) {
	c := chain()
	// Each gate is false: it is what the one behind it is, and not.
	isModel(t, c, nil, samples.Bits("1"), append(samples.Bits("01"), make([]bool, api.MaxVar-1)...))
	r := rand.New(rand.NewSource(168))
	truths := samples.Truths(api.MaxVar, r.Intn)
	back := slices.Clone(truths)
	slices.Reverse(back)
	latches, inputs := api.Circuit{Max: api.MaxVar}, api.Circuit{Max: api.MaxVar}
	for v := api.MaxVar; v > 0; v-- {
		latches.Latches = append(latches.Latches, api.Latch{Lit: 2 * v, Next: 2*v + 1})
		inputs.Inputs = append(inputs.Inputs, 2*v)
	}
	want := append(samples.Bits("0"), truths...)
	if len(want) <= api.MaxItems {
		t.Fatalf("%d truths", len(want))
	}
	isModel(t, latches, back, nil, want)
	isModel(t, inputs, nil, back, want)
}
