package sweep_test

import (
	"testing"

	"trestle/api"
	"trestle/samples"
)

// 11.2: the chapter's example: of two latches that are one each has what that has; of two that are two each has its own.
func TestTraceByExample(t *testing.T) {
	c := api.Circuit{Max: 2, Latches: latches(2, [2]int{3, 0}, [2]int{3, 0}), Bads: []int{4}}
	goesBack(t, c, samples.Told(-1, "0", ""), samples.Told(-1, "00", ""))
	goesBack(t, c, samples.Told(-1, "1", ""), samples.Told(-1, "11", ""))
	c.Latches = latches(2, [2]int{3, own}, [2]int{3, own})
	for _, first := range []string{"00", "01", "10", "11"} {
		goesBack(t, c, samples.Told(-1, first, ""), samples.Told(-1, first, ""))
	}
}

// several is a circuit of two inputs and seven latches, of which three stay: one by the first input, 0, one by the second input, the first one again, 1, the third one but with another Reset, the third one again.
func several() api.Circuit {
	return api.Circuit{
		Max: 9, Inputs: []int{2, 4}, Latches: latches(6, [2]int{2, 0}, [2]int{0, 0}, [2]int{4, 1}, [2]int{2, 0}, [2]int{14, 1}, [2]int{4, 0}, [2]int{4, 1}),
	}
}

// 11.2: constants, whatever the trace is, and the others by the literals that they have become, whatever the row is; a first state that may not begin is taken back, too.
func TestFirstStates(t *testing.T) {
	c := several()
	sweeps(t, c, api.Circuit{Max: 5, Inputs: []int{2, 4}, Latches: latches(6, [2]int{2, 0}, [2]int{4, 1}, [2]int{4, 0})}, 0, 2, 4, 6, 0, 8, 6, 1, 10, 8)
	for _, x := range [][2]string{{"000", "0000100"}, {"100", "1001100"}, {"010", "0010101"}, {"001", "0000110"}, {"110", "1011101"}, {"111", "1011111"}, {"011", "0010111"}, {"101", "1001110"}} {
		for _, row := range []string{"00", "01", "10", "11"} {
			goesBack(t, c, samples.Told(0, x[0], row), samples.Told(0, x[1], row))
			goesBack(t, c, samples.Told(-1, x[0], row, "01", row), samples.Told(-1, x[1], row, "01", row))
		}
	}
}

// 11.2: where no latch stays, a trace has no first values, and the latches have theirs.
func TestNoLatchStays(t *testing.T) {
	c := api.Circuit{Max: 4, Inputs: []int{8}, Latches: latches(2, [2]int{1, 1}, [2]int{3, 0}, [2]int{2, 1})}
	goesBack(t, c, samples.Told(1, "", "0", "1"), samples.Told(1, "101", "0", "1"))
	goesBack(t, api.Circuit{}, samples.Told(-1, "", ""), samples.Told(-1, "", ""))
	goesBack(t, api.Circuit{Max: 3, Inputs: []int{6, 2}}, samples.Told(0, "", "10"), samples.Told(0, "", "10"))
}

// 11.2: traces of one row, of as many as there may be, each with each kind of loop; rows and loop are as they were.
func TestRowsAndLoops(t *testing.T) {
	c := api.Circuit{Max: 3, Inputs: []int{2}, Latches: latches(4, [2]int{2, 0}, [2]int{2, 0})}
	for _, n := range []int{1, 2, 3, api.MaxFrames - 1, api.MaxFrames} {
		for _, loop := range []int{-1, 0, n / 2, n - 1} {
			tr, want := samples.Told(loop, "1"), samples.Told(loop, "11")
			for i := range n {
				tr.Inputs, want.Inputs = append(tr.Inputs, []bool{i%3 == 1}), append(want.Inputs, []bool{i%3 == 1})
			}
			goesBack(t, c, tr, want)
		}
	}
}

// 11.2: as many latches, and inputs, as there may be.
func TestTracesOfMost(t *testing.T) {
	c := afterInput(func(i int) [2]int { return [2]int{2 + i%2, i / 2 % 2} })
	want := samples.Told(-1, "", "1")
	for i := range most {
		want.Init = append(want.Init, i%4 == 1 || i%4 == 2)
	}
	goesBack(t, c, samples.Told(-1, "0110", "1"), want)
	c = api.Circuit{Max: api.MaxVar, Latches: latches(2, [2]int{3, 0}, [2]int{3, 0})}
	tr := samples.Told(0, "1", "")
	for l := 6; l <= 2*api.MaxVar; l += 2 {
		c.Inputs, tr.Inputs[0] = append(c.Inputs, l), append(tr.Inputs[0], l%3 == 0)
	}
	want = tr
	want.Init = samples.Bits("11")
	goesBack(t, c, tr, want)
}
