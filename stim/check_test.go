package stim_test

import (
	"math"
	"math/rand"
	"slices"
	"testing"

	"trestle/api"
	"trestle/samples"
)

// 12.1: the chapter's examples, and the least that each Status has.
func TestCheckByExample(t *testing.T) {
	one := size{1, 0}
	tells(t, shown(samples.Told(-1, "0", "", ""), bad(0)), one, "1\nb0\n0\n\n\n.\n")
	tells(t, shown(samples.Told(1, "0", "", ""), bad(0)), one, "1\nb0\n0\n\n\nc loop 1\n.\n")
	tells(t, said(0, bad(0), justice(1)), one, "0\nb0 j1\n.\n")
	tells(t, said(2, justice(0)), one, "2\nj0\n.\n")
	tells(t, shown(samples.Told(-1, "", ""), bad(0)), size{}, "1\nb0\n\n\n.\n")
	refuses(t, "two latches", shown(samples.Told(-1, "0", "", ""), bad(0)), size{2, 0}, api.ErrShape)
	refuses(t, "nothing", api.Witness{}, one, api.ErrProp)
	refuses(t, "3", said(3), one, api.ErrStatus)
}

// outside is numbers of latches, or of inputs, that may not be.
func outside() []int {
	return []int{-1, -2, math.MinInt, api.MaxItems + 1, api.MaxItems + 2, 2 * api.MaxItems, math.MaxInt}
}

// 12.1: numbers of latches and inputs outside of their range, whatever the witness is; at their ends they may be.
func TestNumbersOfLatchesAndInputs(t *testing.T) {
	list := []api.Witness{said(0, bad(0)), shown(samples.Told(-1, "", ""), bad(0)), {}, said(3), said(-1, make([]api.Prop, api.MaxItems+1)...), said(2, bad(0), bad(0)), shown(api.Trace{}, bad(0))}
	for _, w := range list {
		for _, n := range outside() {
			for _, other := range []int{0, 1, api.MaxItems, api.MaxItems + 1, -1} {
				refuses(t, "latches", w, size{n, other}, api.ErrRange)
				refuses(t, "inputs", w, size{other, n}, api.ErrRange)
			}
		}
	}
	for _, z := range []size{{0, 0}, {api.MaxItems, 0}, {0, api.MaxItems}, {api.MaxItems, api.MaxItems}} {
		tells(t, said(0, bad(0)), z, "0\nb0\n.\n")
	}
}

// 12.1: each Status that is none, ahead of all that the properties and the trace may be.
func TestStatuses(t *testing.T) {
	long := make([]api.Prop, api.MaxItems+1)
	for _, status := range []int{-1, 3, 4, '0', '1', 256, 257, 1 << 32, math.MaxInt, math.MinInt, math.MinInt + 1} {
		for _, props := range [][]api.Prop{{bad(0)}, nil, long, {bad(-1)}, {bad(0), bad(0)}} {
			for _, tr := range []api.Trace{{}, samples.Told(-1, "0", "1"), samples.Told(9, "")} {
				refuses(t, status, api.Witness{Status: status, Props: props, Trace: tr}, size{1, 1}, api.ErrStatus)
			}
		}
	}
	for status, want := range map[int]string{0: "0\nb7\n.\n", 2: "2\nb7\n.\n"} {
		tells(t, said(status, bad(7)), size{1, 1}, want)
	}
	refuses(t, "no trace", said(1, bad(7)), size{1, 1}, api.ErrShape)
}

// 12.1: as many properties as may be, and more of them, right or wrong ones.
func TestNumberOfProps(t *testing.T) {
	most := append(bads(0, api.MaxItems/2), bads(0, api.MaxItems/2)...)
	for i := range most[api.MaxItems/2:] {
		most[i].Kind = 'j'
	}
	w := said(0, most...)
	tells(t, w, size{}, textOf(w))
	w = said(0, bads(0, api.MaxItems)...)
	tells(t, w, size{}, textOf(w))
	for _, status := range []int{0, 1, 2} {
		for _, n := range []int{1, 2, api.MaxItems} {
			for _, p := range []api.Prop{justice(0), {}, bad(0), bad(-1), {Kind: 'x', At: 7}} {
				more := append(bads(0, api.MaxItems), slices.Repeat([]api.Prop{p}, n)...)
				refuses(t, n, said(status, more...), size{}, api.ErrLong)
				slices.Reverse(more)
				refuses(t, n, api.Witness{Status: status, Props: more, Trace: samples.Told(-1, "01", "1")}, size{}, api.ErrLong)
			}
		}
	}
}

// 12.1: properties of each kind and of numbers at their ends, alone, ahead of others and behind them.
func TestPropsThatMayNotBe(t *testing.T) {
	for kind := range 256 {
		for _, at := range []int{0, 1, 16383, -1, api.MaxItems, api.MaxItems + 1, math.MaxInt, math.MinInt} {
			p := api.Prop{Kind: byte(kind), At: at}
			may := (kind == 'b' || kind == 'j') && 0 <= at && at < api.MaxItems
			for _, props := range [][]api.Prop{{p}, {p, bad(2), justice(3)}, {bad(2), p, justice(3)}, {justice(3), bad(2), p}} {
				if may {
					tells(t, said(2, props...), size{1, 0}, textOf(said(2, props...)))
					continue
				}
				refuses(t, p, said(2, props...), size{1, 0}, api.ErrProp)
				refuses(t, p, shown(samples.Told(-1, "0", ""), props...), size{1, 0}, api.ErrProp)
				refuses(t, p, shown(samples.Told(-1, "00", "1"), props...), size{1, 0}, api.ErrProp)
			}
		}
	}
	for _, status := range []int{0, 1, 2} {
		for _, props := range [][]api.Prop{nil, {}} {
			refuses(t, "none", said(status, props...), size{}, api.ErrProp)
			refuses(t, "none", api.Witness{Status: status, Props: props, Trace: samples.Told(-1, "1", "1")}, size{}, api.ErrProp)
		}
	}
}

// 12.1: a property that stands twice, wherever; a bad and a justice of the same number are two.
func TestPropsTwice(t *testing.T) {
	for n := 2; n < 7; n++ {
		for i := range n {
			for k := range i {
				props := bads(5, n)
				props[i], props[k] = justice(6), justice(6)
				refuses(t, props, said(0, props...), size{}, api.ErrProp)
				props[i] = bad(4)
				tells(t, said(0, props...), size{}, textOf(said(0, props...)))
			}
		}
	}
	most := bads(0, api.MaxItems)
	most[api.MaxItems-1] = bad(0)
	refuses(t, "the first one and the last one", said(0, most...), size{}, api.ErrProp)
	tells(t, said(2, bad(0), justice(0)), size{}, "2\nb0 j0\n.\n")
	tells(t, said(2, justice(16383), bad(16383)), size{}, "2\nj16383 b16383\n.\n")
}

// 12.1: a trace that is not all zero beside the Status 0 and 2; one without anything may be nil or empty.
func TestTracesOfOtherStatuses(t *testing.T) {
	for _, status := range []int{0, 2} {
		for _, z := range sizes() {
			r := rand.New(rand.NewSource(121))
			all := []api.Trace{
				{Loop: -1}, {Loop: 1}, {Loop: math.MinInt}, {Init: []bool{false}}, {Init: make([]bool, api.MaxItems+1)}, {Inputs: [][]bool{{}}}, {Inputs: [][]bool{nil}}, {Inputs: make([][]bool, api.MaxFrames)},
				z.trace(1, r.Intn), z.trace(3, r.Intn), z.trace(1, samples.Least),
			}
			for _, tr := range all {
				refuses(t, status, api.Witness{Status: status, Props: bads(0, 1), Trace: tr}, z, api.ErrShape)
			}
			for _, tr := range []api.Trace{{}, {Init: []bool{}, Inputs: [][]bool{}}, {Init: make([]bool, 0, 3), Inputs: make([][]bool, 0, 3)}} {
				if e := checkedAsWords(t, api.Witness{Status: status, Props: bads(0, 1), Trace: tr}, z); e != api.OK {
					t.Fatalf("%+v: %v", tr, e)
				}
			}
		}
	}
}

// 12.1: first states, rows and loops that do not go with the Status 1.
func TestTracesOfOtherShapes(t *testing.T) {
	z := size{2, 3}
	right := func() api.Trace { return samples.Told(1, "10", "010", "111", "001") }
	tells(t, shown(right(), bad(0)), z, "1\nb0\n10\n010\n111\n001\nc loop 1\n.\n")
	var wrong []api.Trace
	change := func(do func(tr *api.Trace)) {
		tr := right()
		do(&tr)
		wrong = append(wrong, tr)
	}
	for _, n := range []int{0, 1, 3, 4, 5, api.MaxItems, api.MaxItems + 1} {
		change(func(tr *api.Trace) { tr.Init = make([]bool, n) })
	}
	for at := range 3 {
		for _, n := range []int{0, 1, 2, 4, 5, 6, api.MaxItems, api.MaxItems + 1} {
			change(func(tr *api.Trace) { tr.Inputs[at] = make([]bool, n) })
		}
	}
	for _, loop := range []int{-2, -3, 3, 4, api.MaxFrames, math.MaxInt, math.MinInt} {
		change(func(tr *api.Trace) { tr.Loop = loop })
	}
	for _, n := range []int{0, api.MaxFrames + 1, api.MaxFrames + 2, 2 * api.MaxFrames, api.MaxItems + 1} {
		for _, loop := range []int{-1, 0, n - 1} {
			change(func(tr *api.Trace) {
				tr.Loop, tr.Inputs = loop, slices.Repeat([][]bool{tr.Inputs[0]}, n)
			})
		}
	}
	for _, tr := range wrong {
		refuses(t, "a trace", shown(tr, bad(0)), z, api.ErrShape)
	}
	refuses(t, "all zero", shown(api.Trace{}, bad(0)), size{}, api.ErrShape)
	refuses(t, "no row", shown(samples.Told(-1, "10"), bad(0)), z, api.ErrShape)
	refuses(t, "the other way round", shown(right(), bad(0)), size{3, 2}, api.ErrShape)
}

// 12.1: from one row on up to MaxFrames, with no loop, the first row, and the last one, of all sizes.
func TestRowsAndLoops(t *testing.T) {
	r := rand.New(rand.NewSource(122))
	for _, z := range sizes() {
		for _, n := range []int{1, 2, 3, 10, 11, api.MaxFrames - 1, api.MaxFrames} {
			for _, loop := range []int{-1, 0, n / 2, n - 1} {
				tr := z.trace(n, r.Intn)
				tr.Loop = loop
				tells(t, shown(tr, justice(2)), z, textOf(shown(tr, justice(2))))
			}
		}
	}
}

// R1: of each two wrong things of a witness the one that 12.1 names first is answered.
func TestTwoWrongThings(t *testing.T) {
	type fault struct {
		do   func(w *api.Witness, z *size)
		want api.Errno
	}
	all := []fault{
		{func(_ *api.Witness, z *size) { z.latches = -1 }, api.ErrRange}, {func(_ *api.Witness, z *size) { z.inputs = api.MaxItems + 1 }, api.ErrRange},
		{func(w *api.Witness, _ *size) { w.Status = -1 }, api.ErrStatus}, {func(w *api.Witness, _ *size) { w.Status = 3 }, api.ErrStatus},
		{func(w *api.Witness, _ *size) { w.Props = append(w.Props, make([]api.Prop, api.MaxItems)...) }, api.ErrLong},
		{func(w *api.Witness, _ *size) { w.Props = append(w.Props, bad(-1)) }, api.ErrProp}, {func(w *api.Witness, _ *size) { w.Props = append(w.Props, w.Props...) }, api.ErrProp},
		{func(w *api.Witness, _ *size) { w.Trace.Init = make([]bool, api.MaxItems+1) }, api.ErrShape}, {func(w *api.Witness, _ *size) { w.Trace.Inputs = make([][]bool, 513) }, api.ErrShape},
		{func(w *api.Witness, _ *size) { w.Trace.Loop = -2 }, api.ErrShape},
	}
	for i, f := range all {
		for _, g := range all[i:] {
			w, z := shown(samples.Told(0, "10", "0", "1"), bad(1), justice(1)), size{2, 1}
			g.do(&w, &z)
			f.do(&w, &z)
			refuses(t, []int{i}, w, z, f.want)
		}
	}
}

// spoiled is a witness of which something may have been changed, so that it may not be any more.
func spoiled(w api.Witness, pick func(n int) int) api.Witness {
	switch pick(12) {
	case 0:
		w.Status = pick(6) - 2
	case 1:
		w.Props = w.Props[:pick(len(w.Props)+1)]
	case 2:
		w.Props = append(w.Props, w.Props[pick(len(w.Props))])
	case 3:
		w.Props[pick(len(w.Props))] = api.Prop{Kind: "bjcilof"[pick(7)], At: [...]int{-1, 0, 5, api.MaxItems - 1, api.MaxItems}[pick(5)]}
	case 4:
		w.Trace.Init = append(w.Trace.Init, true)
	case 5:
		w.Trace.Init = w.Trace.Init[:pick(len(w.Trace.Init)+1)]
	case 6:
		w.Trace.Inputs = append(w.Trace.Inputs, make([]bool, pick(4)))
	case 7:
		w.Trace.Inputs = w.Trace.Inputs[:pick(len(w.Trace.Inputs)+1)]
	case 8:
		w.Trace.Loop = pick(8) - 2
	}
	return w
}

// 12.1, R1: witnesses by chance, some of them changed once or twice: both calls tell what the chapter's words say.
func TestCheckByChance(t *testing.T) {
	r := rand.New(rand.NewSource(123))
	seen := map[api.Errno]int{}
	for range 30000 {
		z := sizes()[r.Intn(len(sizes()))]
		w := spoiled(witnessBy(z, r.Intn), r.Intn)
		if len(w.Props) > 0 {
			w = spoiled(w, r.Intn)
		}
		if r.Intn(30) == 0 {
			z.latches = outside()[r.Intn(len(outside()))]
		}
		seen[checkedAsWords(t, w, z)]++
	}
	for _, e := range []api.Errno{api.OK, api.ErrRange, api.ErrStatus, api.ErrProp, api.ErrShape} {
		if seen[e] < 500 {
			t.Errorf("%v came but %d times", e, seen[e])
		}
	}
}
