package words_test

import (
	"encoding/binary"
	"math"
	"strconv"
	"strings"
	"testing"

	"trestle/api"
	"trestle/words"
)

// 2.1: the chapter's examples.
func TestGroupsByExample(t *testing.T) {
	for n, want := range map[int]string{
		0: "\x00", 1: "\x01", 127: "\x7f", 128: "\x80\x01", 129: "\x81\x01", 300: "\xac\x02", 1 << 14: "\x80\x80\x01",
		1 << 28: "\x80\x80\x80\x80\x01", api.MaxNumber: "\xff\xff\xff\xff\x07",
	} {
		if s, e := words.Put(n); s != want || e != api.OK {
			t.Errorf("Put(%d) = %x, %v, want %x", n, s, e, want)
		}
	}
	if n, end, f := words.Get("\x05\x80\x01", 1); n != 128 || end != 3 || f != (api.Fault{}) {
		t.Error(n, end, f)
	}
	if n, end, f := words.Get("\x05\x80\x01", 0); n != 5 || end != 1 || f != (api.Fault{}) {
		t.Error(n, end, f)
	}
	if n, end, f := words.Get("\x05\x80\x01", 2); n != 1 || end != 3 || f != (api.Fault{}) {
		t.Error(n, end, f)
	}
}

// 2.1, 2.6: what is put is got, wherever it stands, and has as few bytes as there must be.
func TestPutIsGot(t *testing.T) {
	for _, n := range numbers() {
		s, e := words.Put(n)
		if want := binary.AppendUvarint(nil, uint64(n)); s != string(want) || e != api.OK {
			t.Fatalf("Put(%d) = %x, %v, want %x", n, s, e, want)
		}
		for _, ahead := range []string{"", "\x00", "\x80", "\xff\xff\xff\xff\xff\xff"} {
			for _, behind := range []string{"", "\x00", "\x80", "\xff\xff"} {
				got, end, f := words.Get(ahead+s+behind, len(ahead))
				if got != n || end != len(ahead)+len(s) || f != (api.Fault{}) {
					t.Fatalf("Get(%x %x %x, %d) = %d, %d, %v", ahead, s, behind, len(ahead), got, end, f)
				}
			}
		}
	}
}

// 2.6: lesser numbers have no more bytes; each count of groups has its numbers.
func TestCountOfGroups(t *testing.T) {
	for count := 1; count <= 5; count++ {
		least, greatest := 1<<(7*count-7), min(1<<(7*count)-1, api.MaxNumber)
		if count == 1 {
			least = 0
		}
		for _, n := range []int{least, least + 1, (least + greatest) / 2, greatest - 1, greatest} {
			if s, e := words.Put(n); len(s) != count || e != api.OK {
				t.Errorf("Put(%d) = %x, %v, want %d bytes", n, s, e, count)
			}
		}
	}
}

// gotOf is Get's number and its count of bytes by the chapter's words: the first bytes are taken as groups, and put again; false: they are no number's.
func gotOf(s string) (int, int, bool) {
	n, count := binary.Uvarint([]byte(s))
	if count <= 0 || n > api.MaxNumber {
		return 0, 0, false
	}
	return int(n), count, string(binary.AppendUvarint(nil, n)) == s[:count]
}

// sameAsGotOf holds Get at the end of some bytes against gotOf.
func sameAsGotOf(t *testing.T, s string) {
	t.Helper()
	n, count, ok := gotOf(s)
	const ahead = "\x80\x00"
	got, end, f := words.Get(ahead+s, 2)
	if ok && (got != n || end != 2+count || f != (api.Fault{})) {
		t.Fatalf("Get of %x = %d, %d, %v, want %d of %d bytes", s, got, end, f, n, count)
	}
	if !ok && (got != 0 || end != 0 || f != api.Fault{At: 2, Code: api.ErrNumber}) {
		t.Fatalf("Get of %x = %d, %d, %v, want ErrNumber", s, got, end, f)
	}
}

// 2.1, 2.6: each short text begins with a number's groups just where what is put of a number stands there.
func TestGetOfShortTexts(t *testing.T) {
	for _, s := range texts(allBytes(), 2) {
		sameAsGotOf(t, s)
	}
	for _, s := range texts("\x00\x01\x07\x08\x7f\x80\xff", 6) {
		sameAsGotOf(t, s)
	}
}

// 2.1: groups that are more than there must be, that say too much, that do not end.
func TestGetOfNoNumber(t *testing.T) {
	for _, s := range []string{
		"", "\x80", "\x80\x00", "\xff", "\xff\x00", "\x85\x80\x00", "\xff\xff\xff\xff\x08", "\xff\xff\xff\xff\x7f", "\x80\x80\x80\x80\x08",
		"\xff\xff\xff\xff", "\xff\xff\xff\xff\x87", "\xff\xff\xff\xff\x87\x00", "\x81\x80\x80\x80\x80\x00", "\x80\x80\x80\x80\x80\x01",
		"\x81\x80\x80\x80\x80\x80\x80\x80\x80\x02", "\x81\x80\x80\x80\x80\x80\x80\x80\x80\x80\x01", strings.Repeat("\x80", 1000) + "\x01",
	} {
		for _, ahead := range []string{"", "\x05", "\x80\x80\x01"} {
			n, end, f := words.Get(ahead+s, len(ahead))
			if n != 0 || end != 0 || f != (api.Fault{At: len(ahead), Code: api.ErrNumber}) {
				t.Errorf("Get(%.20x, %d) = %d, %d, %v", ahead+s, len(ahead), n, end, f)
			}
		}
	}
}

// 2.2: the digits of numbers, which Number reads wherever they stand.
func TestDigitsAreRead(t *testing.T) {
	for _, n := range numbers() {
		s, e := words.Digits(n)
		if s != strconv.FormatInt(int64(n), 10) || e != api.OK {
			t.Fatalf("Digits(%d) = %q, %v", n, s, e)
		}
		for _, ahead := range []string{"", "0", "12", "a", "-"} {
			for _, behind := range []string{"", "/", ":", "a1", "-1", " 5", "\x00", "\xb5"} {
				got, end, f := words.Number(ahead+s+behind, len(ahead))
				if got != n || end != len(ahead)+len(s) || f != (api.Fault{}) {
					t.Fatalf("Number(%q, %d) = %d, %d, %v", ahead+s+behind, len(ahead), got, end, f)
				}
			}
		}
	}
}

// numberOf is Number's answer by the chapter's words; false: there is none.
func numberOf(s string) (int, int, bool) {
	count := len(s) - len(strings.TrimLeft(s, "0123456789"))
	if count == 0 || s[0] == '0' && count > 1 {
		return 0, 0, false
	}
	n, err := strconv.ParseUint(s[:count], 10, 31)
	return int(n), count, err == nil
}

// sameAsNumberOf holds Number at the end of some bytes against numberOf.
func sameAsNumberOf(t *testing.T, s string) {
	t.Helper()
	n, count, ok := numberOf(s)
	got, end, f := words.Number("07x"+s, 3)
	if ok && (got != n || end != 3+count || f != (api.Fault{})) {
		t.Fatalf("Number of %q = %d, %d, %v, want %d of %d bytes", s, got, end, f, n, count)
	}
	if !ok && (got != 0 || end != 0 || f != api.Fault{At: 3, Code: api.ErrNumber}) {
		t.Fatalf("Number of %q = %d, %d, %v, want ErrNumber", s, got, end, f)
	}
}

// 2.2: each short text is read by the chapter's words.
func TestNumberOfShortTexts(t *testing.T) {
	for _, s := range texts(allBytes(), 2) {
		sameAsNumberOf(t, s)
	}
	for _, s := range texts("019-+ a.", 5) {
		sameAsNumberOf(t, s)
	}
}

// 2.2: the chapter's examples, numbers about the greatest one, and digits of which the sum comes round to a small number.
func TestNumberByExample(t *testing.T) {
	if n, end, f := words.Number("a12b", 1); n != 12 || end != 3 || f != (api.Fault{}) {
		t.Error(n, end, f)
	}
	if n, end, f := words.Number("a12b", 2); n != 2 || end != 3 || f != (api.Fault{}) {
		t.Error(n, end, f)
	}
	for _, s := range []string{
		"", "a12b", "012", "00", "+5", "-0", " 1", "2147483648", "2147483650", "3000000000", "9999999999", "4294967296", "4294967301",
		"9223372036854775808", "18446744073709551616", "18446744073709551621", "340282366920938463463374607431768211461",
		strings.Repeat("9", api.MaxText), strings.Repeat("0", api.MaxText), "1" + strings.Repeat("0", 64), "２",
	} {
		if n, end, f := words.Number(s, 0); n != 0 || end != 0 || f != (api.Fault{Code: api.ErrNumber}) {
			t.Errorf("Number(%.20q, 0) = %d, %d, %v", s, n, end, f)
		}
	}
	for s, want := range map[string]int{"0a": 0, "0": 0, "2147483647": api.MaxNumber, "2147483646b": api.MaxNumber - 1, "1000000000": 1e9} {
		if n, _, f := words.Number(s, 0); n != want || f != (api.Fault{}) {
			t.Errorf("Number(%q, 0) = %d, %v", s, n, f)
		}
	}
}

// 2.1, 2.2: ints that are no numbers are not written.
func TestNoNumbersAreWritten(t *testing.T) {
	for _, n := range noNumbers {
		if s, e := words.Put(n); s != "" || e != api.ErrRange {
			t.Errorf("Put(%d) = %x, %v", n, s, e)
		}
		if s, e := words.Digits(n); s != "" || e != api.ErrRange {
			t.Errorf("Digits(%d) = %q, %v", n, s, e)
		}
	}
}

// 2.1, 2.2: texts that are too long go ahead of places that there are not, these ahead of bytes that are no number.
func TestPlaces(t *testing.T) {
	type reader func(s string, at int) (int, int, api.Fault)
	for name, read := range map[string]reader{"Get": words.Get, "Number": words.Number} {
		for _, at := range []int{-1, 0, 5, api.MaxText + 1, api.MaxText + 2, math.MinInt, math.MaxInt} {
			if n, end, f := read(tooLong, at); n != 0 || end != 0 || f != (api.Fault{Code: api.ErrLong}) {
				t.Errorf("%s at %d of too much: %d, %d, %v", name, at, n, end, f)
			}
		}
		for _, s := range []string{"", "1", "\x80", "x\x80"} {
			for _, at := range []int{-1, -2, len(s) + 1, len(s) + 2, math.MinInt, math.MaxInt} {
				if n, end, f := read(s, at); n != 0 || end != 0 || f != (api.Fault{Code: api.ErrRange}) {
					t.Errorf("%s(%q, %d) = %d, %d, %v", name, s, at, n, end, f)
				}
			}
			if n, end, f := read(s, len(s)); n != 0 || end != 0 || f != (api.Fault{At: len(s), Code: api.ErrNumber}) {
				t.Errorf("%s(%q, %d) = %d, %d, %v", name, s, len(s), n, end, f)
			}
		}
	}
}

// 2.1, 2.2: the longest text that may be is read up to its end.
func TestLongestTexts(t *testing.T) {
	s := strings.Repeat("\x80", api.MaxText-1) + "1"
	if n, end, f := words.Get(s, api.MaxText-2); n != 49<<7 || end != api.MaxText || f != (api.Fault{}) {
		t.Error(n, end, f)
	}
	if n, end, f := words.Number(s, api.MaxText-1); n != 1 || end != api.MaxText || f != (api.Fault{}) {
		t.Error(n, end, f)
	}
	if n, end, f := words.Get(s, 0); n != 0 || end != 0 || f != (api.Fault{Code: api.ErrNumber}) {
		t.Error(n, end, f)
	}
	if n, end, f := words.Number(s, api.MaxText); n != 0 || end != 0 || f != (api.Fault{At: api.MaxText, Code: api.ErrNumber}) {
		t.Error(n, end, f)
	}
}
