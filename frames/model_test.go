package frames_test

import (
	"math"
	"math/rand"
	"slices"
	"testing"

	"trestle/api"
	"trestle/samples"
)

// rows is a trace of a first state and of so many rows, all of which are the same.
func rows(n int, first, row string) api.Trace {
	return samples.Told(-1, first, slices.Repeat([]string{row}, n)...)
}

// 16.4: the chapter's examples, and more steps of their circuit.
func TestModelByExample(t *testing.T) {
	isModel(t, turning(), rows(2, "0", ""), samples.Bits("001"))
	isModel(t, turning(), rows(1, "0", ""), samples.Bits("00"))
	isModel(t, turning(), rows(5, "0", ""), samples.Bits("001010"))
	noRun(t, turning(), rows(2, "1", ""))
	c := turning()
	c.Latches[0].Reset = 1
	isModel(t, c, rows(5, "1", ""), samples.Bits("010101"))
	noRun(t, c, rows(2, "0", ""))
	c.Latches[0].Reset = 2
	isModel(t, c, rows(5, "1", ""), samples.Bits("010101"))
	isModel(t, c, rows(5, "0", ""), samples.Bits("001010"))
}

// 16.4: circuits of no variable, of variables that nothing defines, which are false, and of inputs, latches or gates alone.
func TestModelOfBareCircuits(t *testing.T) {
	for _, steps := range []int{1, 2, 3, 512} {
		for _, most := range []int{0, 1, 2, 511} {
			isModel(t, api.Circuit{Max: most}, rows(steps, "", ""), make([]bool, 1+steps*most))
		}
	}
	isModel(t, api.Circuit{Max: 3, Inputs: []int{4}}, samples.Told(-1, "", "1", "0", "1"), samples.Bits("0010000010"))
	isModel(t, api.Circuit{Max: 2, Inputs: []int{4, 2}}, samples.Told(-1, "", "10", "00", "01", "11"), samples.Bits("001001011"))
	isModel(t, api.Circuit{Max: 3, Latches: []api.Latch{{Lit: 6, Next: 6, Reset: 6}}}, rows(2, "1", ""), samples.Bits("0001001"))
	isModel(t, api.Circuit{Max: 3, Ands: []api.And{{Out: 4, Left: 1, Right: 1}, {Out: 2, Left: 4, Right: 5}}}, rows(2, "", ""), samples.Bits("0010010"))
}

// 16.4: lists in no order of their variables, gates ahead of those that they use, constraints that hold in some steps.
func TestModelByHand(t *testing.T) {
	c := stepping()
	all := "0" + "0001100111" + "1100001000" + "1001101100"
	inputs := []string{"10", "01", "11"}
	for n := 1; n <= 3; n++ {
		isModel(t, c, samples.Told(-1, "101", inputs[:n]...), samples.Bits(all[:1+10*n]))
	}
	isModel(t, c, samples.Told(-1, "100", "10", "01"), samples.Bits("0"+"0001000111"+"1100101000"))
	// The input 16 must be 1 where the latch 4 is 0.
	noRun(t, c, samples.Told(-1, "101", "00"))
	noRun(t, c, samples.Told(-1, "101", "01", "11"))
	noRun(t, c, samples.Told(-1, "101", "10", "01", "01"))
	noRun(t, c, samples.Told(-1, "101", "10", "01", "00", "11"))
	// The latch 8 begins with 1, and 4 with 0.
	for _, first := range []string{"001", "000", "111", "110", "011", "010"} {
		noRun(t, c, samples.Told(-1, first, "10", "11"))
	}
	says(t, c, 2, samples.Bits("1"+"0111000110"+"1111100011"), samples.Told(-1, "110", "10", "01"))
}

// 16.4: all first states of latches that begin with 0, 1 and either.
func TestFirstStates(t *testing.T) {
	c := api.Circuit{Max: 5, Latches: []api.Latch{{Lit: 10, Next: 10}, {Lit: 2, Next: 2, Reset: 1}, {Lit: 6, Next: 6, Reset: 6}, {Lit: 4, Next: 4, Reset: 1}, {Lit: 8, Next: 8}}}
	for _, first := range samples.AllLists(5, false, true) {
		for n := 1; n <= 3; n++ {
			tr := api.Trace{Init: first, Inputs: make([][]bool, n), Loop: -1}
			if first[0] || !first[1] || !first[3] || first[4] {
				noRun(t, c, tr)
				continue
			}
			// The variables 1 to 5.
			step := []bool{first[1], first[3], first[2], first[4], first[0]}
			isModel(t, c, tr, append(samples.Bits("0"), slices.Repeat(step, n)...))
		}
	}
}

// 16.4: steps that do not hold, at each place of traces of each length: the first, the last, any others.
func TestBrokenSteps(t *testing.T) {
	c := api.Circuit{Max: 2, Inputs: []int{4}, Constraints: []int{1, 4}}
	for n := 1; n <= 7; n++ {
		for _, holds := range samples.AllLists(n, false, true) {
			tr := api.Trace{Loop: -1}
			model := samples.Bits("0")
			for _, is := range holds {
				tr.Inputs = append(tr.Inputs, []bool{is})
				model = append(model, false, is)
			}
			if slices.Contains(holds, false) {
				noRun(t, c, tr)
				says(t, c, n, model, tr)
				continue
			}
			isModel(t, c, tr, model)
		}
	}
	long := rows(api.MaxFrames, "", "1")
	isModel(t, c, long, append(samples.Bits("0"), slices.Repeat(samples.Bits("01"), api.MaxFrames)...))
	for _, at := range []int{0, 1, 255, 510, 511} {
		long.Inputs[at] = samples.Bits("0")
		noRun(t, c, long)
		long.Inputs[at] = samples.Bits("1")
	}
	// Whether the state behind the last step could go on is not asked.
	dead := api.Circuit{Max: 1, Latches: []api.Latch{{Lit: 2, Next: 1}}, Constraints: []int{3}}
	isModel(t, dead, rows(1, "0", ""), samples.Bits("00"))
	noRun(t, dead, rows(2, "0", ""))
	never := api.Circuit{Constraints: []int{0}}
	noRun(t, never, rows(1, "", ""))
	says(t, never, 1, samples.Bits("0"), rows(1, "", ""))
}

// 16.4: whatever the step is to which a trace goes back, it is the same run, and no Trace tells one.
func TestLoopIsNotAsked(t *testing.T) {
	r := rand.New(rand.NewSource(191))
	for _, loop := range []int{-1, 0, 1, 2, 3, 511, 512, -2, -512, math.MaxInt, math.MinInt} {
		tr := rows(3, "0", "")
		tr.Loop = loop
		isModel(t, turning(), tr, samples.Bits("0010"))
		tr.Init[0] = true
		noRun(t, turning(), tr)
		for range 50 {
			c, steps := samples.Circuit(r.Intn), 1+r.Intn(3)
			tr := samples.Run(c, steps, r.Intn)
			tr.Loop = loop
			asWords(t, some("Model"), c, given{steps: steps, tr: tr})
		}
	}
}

// 16.4: Trace tells the latches of the first step and the inputs of each, of any truths, whether these are a model or not.
func TestTraceOfAnyTruths(t *testing.T) {
	for _, model := range samples.AllLists(7, false, true) {
		c := api.Circuit{Max: 3, Inputs: []int{6}, Latches: []api.Latch{{Lit: 2, Next: 4, Reset: 1}}, Constraints: []int{0}, Ands: []api.And{{Out: 4, Left: 3, Right: 6}}}
		says(t, c, 2, model, api.Trace{Init: []bool{model[1]}, Inputs: [][]bool{{model[3]}, {model[6]}}})
		says(t, api.Circuit{Max: 2, Inputs: []int{4, 2}}, 3, model, api.Trace{Inputs: [][]bool{{model[2], model[1]}, {model[4], model[3]}, {model[6], model[5]}}})
		both := api.Circuit{Max: 6, Latches: []api.Latch{{Lit: 12, Next: 0}, {Lit: 2, Next: 1}, {Lit: 8, Next: 12}}}
		says(t, both, 1, model, api.Trace{Init: []bool{model[6], model[1], model[4]}, Inputs: [][]bool{{}}})
	}
	r := rand.New(rand.NewSource(192))
	for range 3000 {
		c, steps := samples.Circuit(r.Intn), 1+r.Intn(6)
		asWords(t, some("Trace"), c, given{steps: steps, model: samples.Truths(1+steps*c.Max, r.Intn)})
	}
}

// 16.4: runs of circuits by chance, and traces that are none, by the chapter's words; Trace of Model is the run.
func TestModelByWords(t *testing.T) {
	r := rand.New(rand.NewSource(193))
	is, none := 0, 0
	for range 10000 {
		c, steps := samples.Circuit(r.Intn), 1+r.Intn(6)
		tr := samples.Run(c, steps, r.Intn)
		if r.Intn(3) == 0 || len(tr.Inputs) < steps {
			tr = samples.Trace(c, steps, r.Intn)
		}
		g := given{steps: steps, tr: tr}
		asWords(t, some("Model"), c, g)
		model, isRun := modelOf(c, tr)
		if !isRun {
			none++
			continue
		}
		is++
		isModel(t, c, tr, model)
	}
	if min(is, none) < 2000 {
		t.Errorf("%d runs, %d that are none", is, none)
	}
}

// 16.4: many steps of circuits by chance.
func TestLongRuns(t *testing.T) {
	r := rand.New(rand.NewSource(194))
	long := 0
	for range 60 {
		c := samples.Circuit(r.Intn)
		steps := []int{100, 511, 512}[r.Intn(3)]
		tr := samples.Run(c, steps, r.Intn)
		if len(tr.Inputs) < steps {
			continue
		}
		long++
		model, _ := modelOf(c, tr)
		isModel(t, c, tr, model)
	}
	if long < 10 {
		t.Errorf("%d runs", long)
	}
}

// 16.4: as many gates, latches, inputs and steps as there may be together.
func TestLargestModels(t *testing.T) {
	r := rand.New(rand.NewSource(195))
	latches, inputs := api.Circuit{Max: api.MaxVar}, api.Circuit{Max: 513}
	for v := api.MaxVar; v > 0; v-- {
		latches.Latches = append(latches.Latches, api.Latch{Lit: 2 * v, Next: 2*v + 1, Reset: 2 * v})
	}
	for v := 513; v > 0; v-- {
		inputs.Inputs = append(inputs.Inputs, 2*v)
	}
	for _, x := range []struct {
		c     api.Circuit
		steps int
	}{{latches, 15}, {inputs, 511}} {
		tr := samples.Trace(x.c, x.steps, r.Intn)
		model, is := modelOf(x.c, tr)
		if !is {
			t.Fatalf("%s is no run", brief(tr))
		}
		isModel(t, x.c, tr, model)
	}
	tr := rows(15, "", "")
	model, _ := modelOf(full(), tr)
	isModel(t, full(), tr, model)
}
