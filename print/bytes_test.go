package print_test

import (
	"math/rand"
	"slices"
	"testing"

	"trestle/api"
	"trestle/print"
	"trestle/samples"
	"trestle/shape"
)

// 6.2: the chapter's examples, and circuits of nothing.
func TestBytesByExample(t *testing.T) {
	bytes(t, api.Circuit{Max: 1, Latches: []api.Latch{{Lit: 2, Next: 3}}, Bads: []int{2}}, "aig 1 0 1 0 0 1\n3\n2\n")
	bytes(t, api.Circuit{Max: 3, Inputs: []int{2, 4}, Outputs: []int{7}, Ands: []api.And{{Out: 6, Left: 4, Right: 2}}}, "aig 3 2 0 1 1\n7\n\x02\x02")
	unsorted(t, api.Circuit{Max: 3, Inputs: []int{4, 6}, Ands: []api.And{{Out: 2, Left: 4, Right: 6}}}, "aig 3 2 0 0 1\n\x02\x02")
	bytes(t, api.Circuit{}, "aig 0 0 0 0 0\n")
	unsorted(t, api.Circuit{Max: 7}, "aig 0 0 0 0 0\n")
	bytes(t, inputs(api.MaxVar), "aig 16384 16384 0 0 0\n")
}

// ordered is a circuit in the binary order with something of all that a text may have.
func ordered() api.Circuit {
	return api.Circuit{
		Max:         8,
		Inputs:      []int{2, 4},
		Latches:     []api.Latch{{Lit: 6, Next: 13, Reset: 6}, {Lit: 8, Next: 0, Reset: 0}, {Lit: 10, Next: 4, Reset: 1}},
		Outputs:     []int{17, 1},
		Bads:        []int{15},
		Constraints: []int{0, 9},
		Justice:     [][]int{{}, {3, 12}, {16}},
		Fairness:    []int{7, 14},
		Ands:        []api.And{{Out: 12, Left: 11, Right: 4}, {Out: 14, Left: 13, Right: 13}, {Out: 16, Left: 0, Right: 0}},
		Symbols:     []api.Symbol{{Kind: 'j', At: 2, Name: "j"}, {Kind: 'i', At: 0, Name: " "}},
		Comments:    []string{"", "a comment"},
	}
}

// 6.2: something of all that a text may have.
func TestBytesOfAll(t *testing.T) {
	bytes(t, ordered(), samples.Lines(
		"aig 8 2 3 2 3 1 2 3 2",
		"13 6", "0", "4 1",
		"17", "1",
		"15",
		"0", "9",
		"0", "2", "1",
		"3", "12", "16",
		"7", "14",
	)+"\x01\x07"+"\x01\x00"+"\x10\x00"+samples.Lines("j2 j", "i0  ", "c", "", "a comment"))
}

// 6.2: the header ends behind the last count that is not 0, wherever that stands.
func TestBytesOfCounts(t *testing.T) {
	for _, x := range allCounts() {
		bytes(t, x.c, "aig "+x.numbers+"\n"+x.rest)
	}
}

// 6.2: resets of 0, which are left out, of 1, and of the latch's own literal, which Renumber may have moved.
func TestBytesOfResets(t *testing.T) {
	bytes(t, api.Circuit{Max: 1, Latches: []api.Latch{{Lit: 2, Next: 0}}}, "aig 1 0 1 0 0\n0\n")
	bytes(t, api.Circuit{Max: 1, Latches: []api.Latch{{Lit: 2, Next: 1, Reset: 1}}}, "aig 1 0 1 0 0\n1 1\n")
	bytes(t, api.Circuit{Max: 1, Latches: []api.Latch{{Lit: 2, Next: 3, Reset: 2}}}, "aig 1 0 1 0 0\n3 2\n")
	bytes(t, api.Circuit{Max: 3, Latches: []api.Latch{{Lit: 2, Next: 3, Reset: 1}, {Lit: 4, Next: 6, Reset: 0}, {Lit: 6, Next: 5, Reset: 6}}}, "aig 3 0 3 0 0\n3 1\n6\n5 6\n")
	unsorted(t, api.Circuit{Max: 9, Latches: []api.Latch{{Lit: 18, Next: 5, Reset: 18}, {Lit: 4, Next: 19, Reset: 0}, {Lit: 2, Next: 3, Reset: 1}}}, "aig 3 0 3 0 0\n5 2\n3\n7 1\n")
}

// 6.2: justice properties of no literals and of several.
func TestBytesOfJustice(t *testing.T) {
	bytes(t, api.Circuit{Justice: [][]int{{}, {1, 0, 1}, nil, {0}}, Fairness: []int{1}}, "aig 0 0 0 0 0 0 0 4 1\n0\n3\n0\n1\n1\n0\n1\n0\n1\n")
	bytes(t, api.Circuit{Justice: [][]int{{}, {}}}, "aig 0 0 0 0 0 0 0 2\n0\n0\n")
}

// 6.2: a gate of all literals up to two above its Out: only those that are below it, the greater one first, are in the binary order.
func TestBytesOfGates(t *testing.T) {
	for left := range 10 {
		for right := range 10 {
			c := api.Circuit{Max: 4, Inputs: []int{2, 4}, Ands: []api.And{{Out: 6, Left: left, Right: right}, {Out: 8, Left: 1, Right: 0}}}
			switch {
			case left/2 == 3 || right/2 == 3:
				refuses(t, "Bytes", print.Bytes, c, api.ErrCycle)
				refuses(t, "Either", print.Either, c, api.ErrCycle)
			case left > 6 || right > 6:
				refuses(t, c, print.Bytes, c, api.ErrSort)
				either(t, c, samples.Bytes(binaryOf(t, c), samples.Least))
			case left < right:
				unsorted(t, c, "aig 4 2 0 0 2\n"+string([]byte{byte(6 - right), byte(right - left)})+"\x07\x01")
			default:
				bytes(t, c, "aig 4 2 0 0 2\n"+string([]byte{byte(6 - left), byte(left - right)})+"\x07\x01")
			}
		}
	}
}

// 6.2: differences of one byte to three at their limits, each as the first and as the second one; a right circuit has none of more bytes.
func TestBytesOfDifferences(t *testing.T) {
	edges := []int{0, 1, 2, 126, 127, 128, 129, 255, 256, 16383, 16384, 16385, 32766, 32767, 32768}
	head := "aig 16384 16383 0 0 1\n"
	c := inputs(api.MaxVar - 1)
	c.Max = api.MaxVar
	told := 0
	for _, first := range edges {
		for _, second := range edges {
			left := 2*api.MaxVar - first
			right := left - second
			if first == 0 || right < 0 {
				continue
			}
			c.Ands = []api.And{{Out: 2 * api.MaxVar, Left: left, Right: right}}
			bytes(t, c, head+samples.Groups(first)+samples.Groups(second))
			told++
		}
	}
	if told < 100 {
		t.Errorf("but %d", told)
	}
	c.Ands[0] = api.And{Out: 2 * api.MaxVar}
	bytes(t, c, head+"\x80\x80\x02\x00")
	c.Ands[0] = api.And{Out: 2 * api.MaxVar, Left: 32767 - 16384, Right: 128}
	bytes(t, c, head+"\x81\x80\x01"+"\xff\x7e")
	c.Ands[0] = api.And{Out: 2 * api.MaxVar, Left: 32766, Right: 0}
	bytes(t, c, head+"\x02"+"\xfe\xff\x01")
}

// 6.2: circuits that have not the binary order, in each way, each with its text in that order.
func TestBytesOutOfOrder(t *testing.T) {
	latch := func(l int) api.Latch { return api.Latch{Lit: l, Next: l} }
	gate := func(out, left, right int) api.And { return api.And{Out: out, Left: left, Right: right} }
	for what, x := range map[string]struct {
		c    api.Circuit
		want string
	}{
		"an input that is not 2":             {api.Circuit{Max: 2, Inputs: []int{4}, Outputs: []int{4}}, "aig 1 1 0 1 0\n2\n"},
		"inputs in another order":            {api.Circuit{Max: 2, Inputs: []int{4, 2}, Outputs: []int{2}}, "aig 2 2 0 1 0\n4\n"},
		"a latch ahead of an input":          {api.Circuit{Max: 2, Inputs: []int{4}, Latches: []api.Latch{latch(2)}}, "aig 2 1 1 0 0\n4\n"},
		"latches in another order":           {api.Circuit{Max: 2, Latches: []api.Latch{latch(4), latch(2)}, Bads: []int{5}}, "aig 2 0 2 0 0 1\n2\n4\n3\n"},
		"a gate ahead of a latch":            {api.Circuit{Max: 2, Latches: []api.Latch{latch(4)}, Ands: []api.And{gate(2, 0, 0)}}, "aig 2 0 1 0 1\n2\n\x04\x00"},
		"a gate ahead of an input":           {api.Circuit{Max: 2, Inputs: []int{4}, Ands: []api.And{gate(2, 0, 0)}}, "aig 2 1 0 0 1\n\x04\x00"},
		"gates in another order":             {api.Circuit{Max: 2, Ands: []api.And{gate(4, 1, 0), gate(2, 0, 0)}, Outputs: []int{4}}, "aig 2 0 0 1 2\n2\n\x01\x01\x04\x00"},
		"a gate ahead of one that it uses":   {api.Circuit{Max: 2, Ands: []api.And{gate(2, 5, 1), gate(4, 0, 0)}}, "aig 2 0 0 0 2\n\x02\x00\x01\x02"},
		"a variable left out in the middle":  {api.Circuit{Max: 3, Inputs: []int{2}, Latches: []api.Latch{latch(6)}}, "aig 2 1 1 0 0\n4\n"},
		"a variable left out at the front":   {api.Circuit{Max: 2, Ands: []api.And{gate(4, 0, 0)}}, "aig 1 0 0 0 1\n\x02\x00"},
		"a variable left out at the end":     {api.Circuit{Max: 2, Inputs: []int{2}}, "aig 1 1 0 0 0\n"},
		"a variable left out ahead of gates": {api.Circuit{Max: 3, Inputs: []int{2}, Ands: []api.And{gate(6, 3, 2)}}, "aig 2 1 0 0 1\n\x01\x01"},
		"Left below Right":                   {api.Circuit{Max: 3, Inputs: []int{2, 4}, Ands: []api.And{gate(6, 2, 4)}}, "aig 3 2 0 0 1\n\x02\x02"},
		"Left just below Right":              {api.Circuit{Max: 2, Inputs: []int{2}, Ands: []api.And{gate(4, 2, 3)}}, "aig 2 1 0 0 1\n\x01\x01"},
		"Out below Right":                    {api.Circuit{Max: 2, Inputs: []int{4}, Ands: []api.And{gate(2, 1, 4)}}, "aig 2 1 0 0 1\n\x02\x01"},
	} {
		t.Run(what, func(t *testing.T) { unsorted(t, x.c, x.want) })
	}
	c := ordered()
	c.Max++
	unsorted(t, c, samples.Bytes(ordered(), samples.Least))
	c = ordered()
	c.Ands[0].Left, c.Ands[0].Right = c.Ands[0].Right, c.Ands[0].Left
	unsorted(t, c, samples.Bytes(ordered(), samples.Least))
	unsorted(t, samples.Right(), samples.Bytes(binaryOf(t, samples.Right()), samples.Least))
}

// 6.2: circuits by chance: Bytes tells those alone that have the binary order, Either each one in that order.
func TestBytesByChance(t *testing.T) {
	r := rand.New(rand.NewSource(62))
	for range 5000 {
		c := samples.Circuit(r.Intn)
		b := binaryOf(t, c)
		want := samples.Bytes(b, samples.Least)
		bytes(t, b, want)
		if shape.Same(b, c) {
			continue
		}
		unsorted(t, c, want)
		if len(b.Ands) > 0 {
			g := &b.Ands[r.Intn(len(b.Ands))]
			g.Left, g.Right = g.Right, g.Left
			if g.Left != g.Right {
				unsorted(t, b, want)
			}
		}
	}
}

// 6.2, R1: what layer 3 refuses goes ahead of the order, and that ahead of the length.
func TestBytesInOrder(t *testing.T) {
	long := commented(api.MaxText + 1)
	refuses(t, "Bytes", print.Bytes, long, api.ErrLong)
	refuses(t, "Either", print.Either, long, api.ErrLong)
	long.Max = 1
	refuses(t, "Bytes", print.Bytes, long, api.ErrSort)
	refuses(t, "Either", print.Either, long, api.ErrLong)
	refuses(t, "Text", print.Text, long, api.ErrLong)
	for code, wrong := range map[api.Errno]func(c *api.Circuit){
		api.ErrRange:   func(c *api.Circuit) { c.Max = -1 },
		api.ErrLit:     func(c *api.Circuit) { c.Outputs = []int{4} },
		api.ErrLoose:   func(c *api.Circuit) { c.Outputs = []int{2} },
		api.ErrSymbol:  func(c *api.Circuit) { c.Symbols = one('i', 0, "x") },
		api.ErrComment: func(c *api.Circuit) { c.Comments = append(slices.Clone(c.Comments), "\n") },
	} {
		c := long
		wrong(&c)
		for name, call := range printers() {
			refuses(t, name, call, c, code)
		}
	}
}
