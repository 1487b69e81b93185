package tern_test

import (
	"math"
	"math/rand"
	"slices"
	"testing"

	"trestle/api"
	"trestle/samples"
	"trestle/shape"
)

// wrongRows is lists that are no row of n values: too short, too long, or with what is no value at each place.
func wrongRows(n int) [][]int {
	var all [][]int
	for _, k := range []int{0, n - 1, n + 1, 2 * n, 64, api.MaxItems, api.MaxItems + 1, 2*api.MaxItems + 1} {
		if k >= 0 && k != n {
			all = append(all, twos(k))
		}
	}
	for _, v := range []int{-1, 3, 4, -2, math.MaxInt, math.MinInt} {
		for at := range n {
			one := make([]int, n)
			one[at] = v
			all = append(all, one)
		}
	}
	return all
}

// 8.1, 8.4: lists that are no rows, one of them or both; samples.Right has three latches and two inputs.
func TestRowsThatAreNone(t *testing.T) {
	c := samples.Right()
	for _, latches := range wrongRows(3) {
		refuse(t, latches, rowCalls(c, latches, row("02"), nil), api.ErrWidth)
		for _, inputs := range wrongRows(2) {
			refuse(t, [][]int{latches, inputs}, rowCalls(c, latches, inputs, []int{1}), api.ErrWidth)
		}
	}
	for _, inputs := range wrongRows(2) {
		refuse(t, inputs, rowCalls(c, row("012"), inputs, nil), api.ErrWidth)
	}
	// As many as both together, in each other's place.
	refuse(t, "changed over", rowCalls(c, row("00"), row("000"), nil), api.ErrWidth)
	refuse(t, "nil", rowCalls(c, nil, nil, nil), api.ErrWidth)
	// Of a circuit of nothing.
	refuse(t, "one of none", rowCalls(api.Circuit{}, row("2"), nil, nil), api.ErrWidth)
	refuse(t, "one of none", rowCalls(api.Circuit{}, nil, row("2"), nil), api.ErrWidth)
}

// 8.1: of Lit too many values, literals that have none, values that are none, and several of these.
func TestLitOfWrongThings(t *testing.T) {
	long := twos(2*api.MaxItems + 1)
	for _, l := range []int{0, 1, 2, 4*api.MaxItems + 1, 4*api.MaxItems + 2, -1, math.MaxInt, math.MinInt} {
		refuse(t, l, litCall(long, l), api.ErrLong)
		refuse(t, l, litCall(slices.Repeat([]int{3}, 2*api.MaxItems+1), l), api.ErrLong)
		refuse(t, l, litCall(nil, l), api.ErrRange)
	}
	for _, n := range []int{1, 2, 3, 17, 2 * api.MaxItems} {
		for _, v := range []int{2, 3, -1} {
			some := slices.Repeat([]int{v}, n)
			for _, l := range []int{2 * n, 2*n + 1, 2*n + 2, -1, -2, -2 * n, math.MaxInt, math.MaxInt - 1, math.MinInt, math.MinInt + 1} {
				refuse(t, []int{n, v, l}, litCall(some, l), api.ErrRange)
			}
		}
	}
	for _, v := range []int{-1, 3, 4, -2, math.MaxInt, math.MinInt, math.MinInt + 1} {
		for at := range 3 {
			some := row("012")
			some[at] = v
			refuse(t, some, slices.Concat(litCall(some, 2*at), litCall(some, 2*at+1)), api.ErrWidth)
		}
	}
}

// 8.2: of Join rows that are too long, not of one length, or have what is no value, and several of these.
func TestJoinOfWrongThings(t *testing.T) {
	long := twos(api.MaxItems + 1)
	for _, other := range [][]int{nil, {1}, {3}, twos(api.MaxItems), long, slices.Repeat([]int{-1}, api.MaxItems+2)} {
		refuse(t, len(other), joinCalls(long, other), api.ErrLong)
		refuse(t, len(other), joinCalls(slices.Repeat([]int{3}, api.MaxItems+1), other), api.ErrLong)
	}
	for _, n := range []int{1, 2, 3, 9} {
		for _, wrong := range wrongRows(n) {
			want := api.ErrWidth
			if len(wrong) > api.MaxItems {
				want = api.ErrLong
			}
			refuse(t, wrong, joinCalls(wrong, twos(n)), want)
		}
	}
	refuse(t, "one of none", joinCalls(row("0"), nil), api.ErrWidth)
	refuse(t, "not as many, and none", joinCalls([]int{1, 5}, []int{5}), api.ErrWidth)
	refuse(t, "both none, and alike", joinCalls([]int{5}, []int{5}), api.ErrWidth)
}

// 8.4: literals that are none of the circuit's, that have not the value 1, too many, and several of these; samples.Right has variables up to 12.
func TestLiftOfWrongLiterals(t *testing.T) {
	c := samples.Right()
	latches, inputs := row("012"), row("02")
	lift := func(want api.Errno, lits ...int) {
		t.Helper()
		refuse(t, lits, liftCall(c, latches, inputs, lits), want)
	}
	for _, l := range []int{-1, -2, 26, 27, 1000, math.MaxInt, math.MaxInt - 1, math.MinInt, math.MinInt + 1} {
		lift(api.ErrRange, l)
		lift(api.ErrRange, 1, l)
		lift(api.ErrRange, l, 1)
		lift(api.ErrRange, 0, 2, l) // whatever else is wrong ahead of it
		lift(api.ErrRange, l, 0)
	}
	for l := range 26 {
		if valueOf(c, latches, inputs, l) != 1 {
			lift(api.ErrFalse, l)
			lift(api.ErrFalse, 1, l)
			lift(api.ErrFalse, l, 1, l)
		}
	}
	long := slices.Repeat([]int{1}, api.MaxItems+1)
	lift(api.ErrLong, long...)
	for _, l := range []int{0, 2, -1, 26} {
		long[0] = l
		lift(api.ErrLong, long...)
		long[0], long[api.MaxItems] = 1, l
		lift(api.ErrLong, long...)
	}
	full := slices.Repeat([]int{1}, api.MaxItems)
	full[api.MaxItems-1] = 0
	lift(api.ErrFalse, full...)
	full[api.MaxItems-1] = 26
	lift(api.ErrRange, full...)
	// Of a circuit of nothing, and of one of the most variables.
	refuse(t, "2 of none", liftCall(api.Circuit{}, nil, nil, []int{2}), api.ErrRange)
	refuse(t, "0 of none", liftCall(api.Circuit{}, nil, nil, []int{0}), api.ErrFalse)
	most := api.Circuit{Max: api.MaxVar}
	refuse(t, "the last of most", liftCall(most, nil, nil, []int{2*api.MaxVar + 1}), api.ErrFalse)
	refuse(t, "one more", liftCall(most, nil, nil, []int{2*api.MaxVar + 2}), api.ErrRange)
	// The chapter's circuit.
	refuse(t, "false", liftCall(holder(), row("11"), nil, []int{6}), api.ErrFalse)
	refuse(t, "either", liftCall(holder(), row("20"), nil, []int{6}), api.ErrFalse)
	refuse(t, "either", liftCall(holder(), row("20"), nil, []int{7}), api.ErrFalse)
}

// 8.4, R1: what is wrong with rows is told ahead of what is wrong with literals.
func TestLiftOfWrongRowsAndLiterals(t *testing.T) {
	c := samples.Right()
	for _, lits := range [][]int{nil, {1}, {0}, {-1}, {26}, slices.Repeat([]int{-1}, api.MaxItems+1)} {
		refuse(t, lits, liftCall(c, row("01"), row("02"), lits), api.ErrWidth)
		refuse(t, lits, liftCall(c, row("010"), []int{0, 3}, lits), api.ErrWidth)
		refuse(t, lits, liftCall(c, []int{-1, 0, 0}, nil, lits), api.ErrWidth)
	}
}

// wrongAnyway is calls of a circuit, by rows and literals that are wrong too.
func wrongAnyway(c api.Circuit) []refusal {
	return slices.Concat(
		loneCalls(c), rowCalls(c, row("012"), row("02"), []int{1}), rowCalls(c, row("0"), row("02"), nil), rowCalls(c, []int{0, 1, 3}, row("0"), []int{-1}),
		rowCalls(c, row("012"), row("02"), slices.Repeat([]int{1}, api.MaxItems+1)), rowCalls(c, row("012"), row("02"), []int{0}), rowCalls(c, nil, nil, nil),
	)
}

// R1, R2: what is wrong with a circuit is told ahead of what is wrong with rows and literals.
func TestCircuitsThatAreWrong(t *testing.T) {
	for _, f := range samples.Faults() {
		refuse(t, f.Name, wrongAnyway(f.Circuit()), f.Want)
	}
	refuse(t, "Max below 0", wrongAnyway(api.Circuit{Max: -1}), api.ErrRange)
	refuse(t, "Max below 0", wrongAnyway(api.Circuit{Max: math.MinInt}), api.ErrRange)
	refuse(t, "Max too great", wrongAnyway(api.Circuit{Max: api.MaxVar + 1}), api.ErrRange)
}

// R1: of two things that are wrong with a circuit the one is told that layer 3's chapter names first.
func TestCircuitsWithTwoFaults(t *testing.T) {
	all := samples.Faults()
	for i, f := range all {
		for _, g := range all[i+1:] {
			c := f.Circuit()
			g.Do(&c)
			refuse(t, f.Name+", "+g.Name, append(loneCalls(c), rowCalls(c, row("012"), row("0"), []int{-1})...), f.Want)
		}
	}
}

// P1, R2: circuits by chance with any numbers in them: all calls end, and refuse just what layer 3 refuses of them.
func TestAnyNumbers(t *testing.T) {
	r := rand.New(rand.NewSource(80))
	seen := map[api.Errno]int{}
	for range 20000 {
		c := samples.AnyNumbers(r.Intn)
		_, want := shape.Check(c)
		seen[want]++
		latches, inputs := someRow(len(c.Latches), r.Intn), someRow(len(c.Inputs), r.Intn)
		if want != api.OK {
			refuse(t, c, append(loneCalls(c), rowCalls(c, latches, inputs, []int{1})...), want)
			continue
		}
		asWords(t, c, latches, inputs)
		resets(t, c, resetsOf(c))
		settled, times := settleOf(c)
		settles(t, c, settled, times)
	}
	for _, e := range samples.CodesOfNumbers() {
		if seen[e] < 10 {
			t.Errorf("%v came but %d times", e, seen[e])
		}
	}
}

// P1, 8.4: any literals, by any rows: Lift says what the chapter's words say of them.
func TestAnyLiterals(t *testing.T) {
	r := rand.New(rand.NewSource(90))
	seen := map[api.Errno]int{}
	for range 20000 {
		c := samples.Circuit(r.Intn)
		latches, inputs := someRow(len(c.Latches), r.Intn), someRow(len(c.Inputs), r.Intn)
		lits := make([]int, r.Intn(4))
		want := api.OK
		for i := range lits {
			lits[i] = r.Intn(2*c.Max+4) - 1
			if lits[i] < 0 || lits[i] > 2*c.Max+1 {
				want = api.ErrRange
			}
		}
		if want == api.OK && !allTrueOf(c, latches, inputs, lits) {
			want = api.ErrFalse
		}
		if seen[want]++; want == api.OK {
			lifts(t, c, latches, inputs, lits, liftOf(c, latches, inputs, lits))
			continue
		}
		refuse(t, lits, liftCall(c, latches, inputs, lits), want)
	}
	if min(seen[api.OK], seen[api.ErrRange], seen[api.ErrFalse]) < 1000 {
		t.Errorf("%v", seen)
	}
}
