package words_test

import (
	"math"
	"math/bits"
	"slices"
	"testing"

	"trestle/api"
	"trestle/words"
)

// shifted is a row after a shift, by the chapter's words.
func shifted(row []bool, by int) []bool {
	out := make([]bool, len(row))
	for i := range out {
		// i - by, if it is from 0 to the row's end, is no more than an int.
		for from := range row {
			if from == i-by && (by > 0) == (from < i) {
				out[i] = row[from]
			}
		}
	}
	return out
}

// sameShift holds Shift against the chapter's words.
func sameShift(t *testing.T, row []bool, by int) {
	t.Helper()
	w, e := words.Shift(packed(row), len(row), by)
	if want := packed(shifted(row, by)); !slices.Equal(w, want) || e != api.OK {
		t.Fatalf("Shift of %d bits %x by %d: %x, %v, want %x", len(row), packed(row), by, w, e, want)
	}
}

// 2.4: the chapter's examples.
func TestShiftByExample(t *testing.T) {
	for by, want := range map[int]uint64{0: 5, 1: 2, 2: 4, 3: 0, 4: 0, -1: 2, -2: 1, -3: 0, math.MaxInt: 0, math.MinInt: 0} {
		if w, e := words.Shift([]uint64{5}, 3, by); !slices.Equal(w, []uint64{want}) || e != api.OK {
			t.Errorf("Shift by %d: %x, %v, want %x", by, w, e, want)
		}
	}
	if w, e := words.Shift([]uint64{1 << 63, 1}, 65, 1); !slices.Equal(w, []uint64{0, 1}) || e != api.OK {
		t.Error(w, e)
	}
	if w, e := words.Shift([]uint64{0, 1}, 65, -1); !slices.Equal(w, []uint64{1 << 63, 0}) || e != api.OK {
		t.Error(w, e)
	}
}

// 2.4: shifts both ways, by none, by all places, by more than there are, up to the least and the greatest int.
func TestShifts(t *testing.T) {
	far := []int{math.MinInt, math.MinInt + 1, -api.MaxBits, -200, 200, api.MaxBits, math.MaxInt - 1, math.MaxInt}
	for n := range 7 {
		for _, row := range rows(n) {
			for by := -n - 2; by <= n+2; by++ {
				sameShift(t, row, by)
			}
			for _, by := range far {
				sameShift(t, row, by)
			}
		}
	}
	for _, n := range []int{62, 63, 64, 65, 127, 128, 129} {
		for _, row := range some(n) {
			for by := -n - 2; by <= n+2; by++ {
				sameShift(t, row, by)
			}
			for _, by := range far {
				sameShift(t, row, by)
			}
		}
	}
}

// 2.4: shifts of the longest row.
func TestShiftOfTheLongestRow(t *testing.T) {
	row := some(api.MaxBits)[3]
	for _, by := range []int{0, 1, -1, 63, 64, 65, -64, 10000, api.MaxBits - 1, 1 - api.MaxBits, api.MaxBits, -api.MaxBits, math.MaxInt, math.MinInt} {
		w, e := words.Shift(packed(row), len(row), by)
		if len(w) != api.MaxBits/64 || e != api.OK {
			t.Fatal(by, len(w), e)
		}
		for i := range row {
			want := false
			if by > -len(row) && by < len(row) && i-by >= 0 && i-by < len(row) {
				want = row[i-by]
			}
			if bitOf(w, i) != want {
				t.Fatalf("by %d: the bit %d is %v", by, i, !want)
			}
		}
	}
}

// 2.6: a shift by a, and one by b the same way, is one by both.
func TestShiftsInTurn(t *testing.T) {
	steps := []int{0, 1, 2, 31, 63, 64, 65, 100, 130, math.MaxInt / 2}
	for _, n := range []int{0, 1, 3, 64, 65, 130} {
		for _, row := range some(n) {
			for _, a := range steps {
				for _, b := range steps {
					for _, way := range []int{1, -1} {
						first, _ := words.Shift(packed(row), n, way*a)
						second, e := words.Shift(first, n, way*b)
						both, f := words.Shift(packed(row), n, way*(a+b))
						if !slices.Equal(second, both) || e != api.OK || f != api.OK {
							t.Fatalf("%d bits by %d and %d: %x, %v, by both %x, %v", n, way*a, way*b, second, e, both, f)
						}
					}
				}
			}
		}
	}
}

// 2.4: what Unpack refuses, Shift refuses, by how many places ever.
func TestShiftOfWrongRows(t *testing.T) {
	for _, x := range wrongRows() {
		for _, by := range []int{0, 1, -1, x.n, math.MinInt, math.MaxInt} {
			if w, e := words.Shift(x.w, x.n, by); len(w) != 0 || e != x.want {
				t.Fatalf("Shift of %d words, %d bits: %d words, %v, want %v", len(x.w), x.n, len(w), e, x.want)
			}
		}
	}
}

// 2.4: any words have their count of ones, however many they are.
func TestOnes(t *testing.T) {
	for _, x := range []struct {
		w    []uint64
		want int
	}{
		{nil, 0}, {[]uint64{}, 0}, {[]uint64{0, 0}, 0}, {[]uint64{5, 1 << 63}, 3}, {[]uint64{math.MaxUint64}, 64}, {[]uint64{1, 2, 4, 8}, 4},
		{slices.Repeat([]uint64{math.MaxUint64}, api.MaxItems), 64 * api.MaxItems},
		{slices.Repeat([]uint64{3}, api.MaxItems+1), 2 * (api.MaxItems + 1)},
	} {
		if n := words.Ones(x.w); n != x.want {
			t.Errorf("Ones of %d words: %d, want %d", len(x.w), n, x.want)
		}
	}
	for _, n := range lengths {
		for _, row := range some(n) {
			want := 0
			for _, bit := range row {
				if bit {
					want++
				}
			}
			if ones := words.Ones(packed(row)); ones != want {
				t.Errorf("Ones of %d bits: %d, want %d", n, ones, want)
			}
		}
	}
}

// 2.4, 2.6: the bits in both, in just one of both; none differs from itself.
func TestMeetAndDiffer(t *testing.T) {
	for _, n := range lengths {
		for _, x := range some(n) {
			for _, y := range some(n) {
				a, b := packed(x), packed(y)
				meet, e := words.Meet(a, b)
				differ, f := words.Differ(a, b)
				if len(meet) != len(a) || len(differ) != len(a) || e != api.OK || f != api.OK {
					t.Fatal(n, len(meet), e, len(differ), f)
				}
				for i := range 64 * len(a) {
					if bitOf(meet, i) != (i < n && x[i] && y[i]) || bitOf(differ, i) != (i < n && x[i] != y[i]) {
						t.Fatalf("of %d bits: the bit %d", n, i)
					}
				}
			}
			if d, e := words.Differ(packed(x), packed(x)); words.Ones(d) != 0 || e != api.OK {
				t.Fatalf("%d bits differ from themselves: %x, %v", n, d, e)
			}
		}
	}
	for i := range 4096 {
		a, b := uint64(i%64), uint64(i/64)
		meet, e := words.Meet([]uint64{a}, []uint64{b})
		differ, f := words.Differ([]uint64{a}, []uint64{b})
		if e != api.OK || f != api.OK || meet[0]&differ[0] != 0 || bits.OnesCount64(a)+bits.OnesCount64(b) != 2*words.Ones(meet)+words.Ones(differ) {
			t.Fatal(a, b, meet, e, differ, f)
		}
	}
}

// 2.4: lists that are too long go ahead of ones that have not as many words; words of no row are taken as they are.
func TestMeetAndDifferOfWrongLists(t *testing.T) {
	type both func(a, b []uint64) ([]uint64, api.Errno)
	most, over := make([]uint64, api.MaxItems), make([]uint64, api.MaxItems+1)
	for name, f := range map[string]both{"Meet": words.Meet, "Differ": words.Differ} {
		for _, x := range []struct {
			a, b []uint64
			want api.Errno
		}{
			{over, nil, api.ErrLong}, {nil, over, api.ErrLong}, {over, over, api.ErrLong}, {most, over, api.ErrLong}, {over, most, api.ErrLong},
			{[]uint64{6}, nil, api.ErrShape}, {nil, []uint64{6}, api.ErrShape}, {[]uint64{1, 2}, []uint64{1}, api.ErrShape}, {most, nil, api.ErrShape},
			{[]uint64{1, 0}, []uint64{1}, api.ErrShape}, {most[1:], most, api.ErrShape},
		} {
			if w, e := f(x.a, x.b); len(w) != 0 || e != x.want {
				t.Errorf("%s of %d and %d words: %d words, %v, want %v", name, len(x.a), len(x.b), len(w), e, x.want)
			}
		}
		if w, e := f(most, most); len(w) != api.MaxItems || e != api.OK {
			t.Errorf("%s of the longest lists: %d words, %v", name, len(w), e)
		}
		if w, e := f(nil, []uint64{}); len(w) != 0 || e != api.OK {
			t.Errorf("%s of no words: %x, %v", name, w, e)
		}
	}
	if w, e := words.Meet([]uint64{math.MaxUint64, 9}, []uint64{math.MaxUint64 - 1, 3}); !slices.Equal(w, []uint64{math.MaxUint64 - 1, 1}) || e != api.OK {
		t.Error(w, e)
	}
	if w, e := words.Differ([]uint64{math.MaxUint64, 9}, []uint64{math.MaxUint64 - 1, 3}); !slices.Equal(w, []uint64{1, 10}) || e != api.OK {
		t.Error(w, e)
	}
}
