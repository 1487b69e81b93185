package binary_test

import (
	"strings"
	"testing"

	"trestle/api"
	"trestle/samples"
)

// oneGate is a text of some inputs and one gate, up to the gate's bytes.
func oneGate(inputs int) string {
	return "aig " + samples.Numbers(inputs+1, inputs, 0, 0, 1) + "\n"
}

// holdsGate holds Read against what the chapter says of a gate of two numbers behind some inputs.
func holdsGate(t *testing.T, inputs, first, second int) {
	t.Helper()
	head, out := oneGate(inputs), 2*(inputs+1)
	s := head + samples.Groups(first) + samples.Groups(second)
	switch left := out - first; {
	case first == 0 || first > out:
		refuses(t, s, len(head), api.ErrDelta)
	case second > left:
		refuses(t, s, len(head+samples.Groups(first)), api.ErrDelta)
	default:
		gates := []api.And{{Out: out, Left: left, Right: left - second}}
		reads(t, s, api.Circuit{Max: inputs + 1, Inputs: inputsTo(2 * inputs), Ands: gates})
	}
}

// edges is numbers of one byte to five at their limits, and numbers close to another one.
func edges(near int) []int {
	all := []int{0, 1, 2, 127, 128, 129, 1<<14 - 1, 1 << 14, 1<<14 + 1, 1<<21 - 1, 1 << 21, 1<<28 - 1, 1 << 28, 1<<31 - 1, 1 << 31, 1 << 32, 1<<35 - 1, 1 << 35, 1 << 42}
	for n := max(0, near-2); n <= near+2; n++ {
		all = append(all, n)
	}
	return all
}

// 5.1: all pairs of numbers up to Out and a few above, with few inputs.
func TestGatesOfAllNumbers(t *testing.T) {
	for inputs := range 9 {
		most := 2*(inputs+1) + 4
		for first := range most {
			for second := range most {
				holdsGate(t, inputs, first, second)
			}
		}
	}
}

// 5.1: numbers of one to five bytes, 0, just Out and one above, just Left and one above.
func TestGatesOfEdges(t *testing.T) {
	for _, inputs := range []int{0, 1, 62, 63, 64, 8190, 8191, 8192, api.MaxVar - 1} {
		out := 2 * (inputs + 1)
		for _, first := range edges(out) {
			for _, second := range edges(max(0, out-first)) {
				holdsGate(t, inputs, first, second)
			}
		}
	}
}

// 5.1: numbers with a last group of 0 or of too many bits, and bytes that end within a number, as the first number and as the second one.
func TestGatesOfNoNumbers(t *testing.T) {
	wrong := []string{"\x80\x00", "\x81\x00", "\x80\x80\x00", "\xff\x00", "\x82\x80\x80\x80\x00", "\x80\x80\x80\x80\x80\x00", "\x80\x80\x80\x80\x08", "\xff\xff\xff\xff\x0f", "\xff\xff\xff\xff\x7f", "\x80\x80\x80\x80\x80\x01", "\x82\x80\x80\x80\x80\x80\x80\x80\x80\x00", strings.Repeat("\xff", 9) + "\x01", strings.Repeat("\x80", 1000) + "\x01"}
	unended := []string{"", "\x80", "\x81", "\xff", "\x80\x80", "\x80\x80\x80\x80", "\xff\xff\xff\xff\xff", strings.Repeat("\x80", 1000)}
	for _, inputs := range []int{0, 2, 100, api.MaxVar - 1} {
		head := oneGate(inputs)
		for _, w := range wrong {
			for _, rest := range []string{"", "\x00", "\x01", "i0 x\n", "c\n", "\x80"} {
				refuses(t, head+w+rest, len(head), api.ErrDelta)
				refuses(t, head+"\x01"+w+rest, len(head)+1, api.ErrDelta)
			}
		}
		for _, w := range unended {
			refuses(t, head+w, len(head), api.ErrDelta)
			refuses(t, head+"\x01"+w, len(head)+1, api.ErrDelta)
		}
	}
	// The place is the number's, behind one of several bytes.
	head := oneGate(100)
	refuses(t, head+"\x80\x01", len(head)+2, api.ErrDelta)
	refuses(t, head+"\x80\x01\x80", len(head)+2, api.ErrDelta)
	refuses(t, head+"\x80\x01\x4b", len(head)+2, api.ErrDelta)
	reads(t, head+"\x80\x01\x4a", api.Circuit{Max: 101, Inputs: inputsTo(200), Ands: []api.And{{Out: 202, Left: 74}}})
}

// 5.1: of several gates the first wrong number is told.
func TestGatesInOrder(t *testing.T) {
	wrong := []string{"\x00", "\x80\x00", "\x7f", "\x80\x80\x80\x80\x08"}
	for i := range fullGates() {
		for _, w := range wrong {
			if i%2 == 1 && w == "\x00" {
				continue // a second number may be 0
			}
			gates := fullGates()
			gates[i] = w
			refuses(t, fullText(fullBody(), gates, fullEnd()), numberAt(fullBody(), gates, i), api.ErrDelta)
			for k := i + 1; k < len(gates); k++ {
				gates[k] = "\x7f"
			}
			refuses(t, fullText(fullBody(), gates, fullEnd()), numberAt(fullBody(), gates, i), api.ErrDelta)
			refuses(t, fullText(fullBody(), gates[:i+1], nil), numberAt(fullBody(), gates, i), api.ErrDelta)
		}
		refuses(t, fullText(fullBody(), fullGates()[:i], nil), numberAt(fullBody(), fullGates(), i), api.ErrDelta)
	}
}

// 5.1: gates' bytes that look like lines, like symbols and like comments are gates' bytes.
func TestGatesThatLookLikeLines(t *testing.T) {
	const inputs = 200
	for _, s := range []string{"\n\n", "\n\n\n\n\n\n", "c\n", "c\nxy\n\n", "i0 x\n\n", "i0 xy\n", "0\n", " \n", "\n\x00", "\r\n", "aig 0 0 0 0 0\n", "\n i0 x\n\nc\n"} {
		if len(s)%2 != 0 {
			t.Fatalf("%q is no gates", s)
		}
		gates := len(s) / 2
		want := api.Circuit{Max: inputs + gates, Inputs: inputsTo(2 * inputs)}
		for i := range gates {
			out := 2 * (inputs + i + 1)
			left := out - int(s[2*i])
			want.Ands = append(want.Ands, api.And{Out: out, Left: left, Right: left - int(s[2*i+1])})
		}
		text := "aig " + samples.Numbers(inputs+gates, inputs, 0, 0, gates) + "\n" + s
		reads(t, text, want)
		refuses(t, text+"\n", len(text), api.ErrLine)
		refuses(t, text[:len(text)-1], len(text)-1, api.ErrDelta)
		want.Symbols, want.Comments = []api.Symbol{{Kind: 'i', At: 1, Name: "x"}}, []string{"c"}
		reads(t, text+"i1 x\nc\nc\n", want)
	}
}

// 5.1: what stands behind the gates: symbols and comments, or what Tail refuses, with its place.
func TestEndBehindGates(t *testing.T) {
	for _, head := range []string{"aig 3 2 0 0 1\n\x02\x02", "aig 6 5 0 0 1\n\x01\n", "aig 2 2 0 0 0\n", "aig 3 2 0 1 1\n7\n\x06\x00"} {
		for _, end := range []string{"", "c\n", "c\n\n", "i0 x\n", "i1 x\ni0 \xff\n", "i0 x\nc\n\x00\nx\n"} {
			if f := sameAsWords(t, head+end); f != (api.Fault{}) {
				t.Fatalf("%q: %v", head+end, f)
			}
			for _, wrong := range []string{"x", "i", "i0", "\x00", "\x02", "\x02\x02", "\xff", "", "i0 x", "c"} {
				if wrong != "" {
					refuses(t, head+end+wrong, len(head+end), api.ErrLine)
				}
				if strings.Contains(end, "c\n") || wrong == "i0 x" || wrong == "c" {
					continue // with its end it is a right line
				}
				refuses(t, head+end+wrong+"\n", len(head+end), api.ErrLine)
				refuses(t, head+end+wrong+"\ni0\nc\n", len(head+end), api.ErrLine)
			}
		}
		refuses(t, head+"i7 x\n", 0, api.ErrSymbol)
		refuses(t, head+"i7 x\n\x02", len(head)+5, api.ErrLine)
	}
}

// 5.1: all short texts of bytes that matter behind some headers: Read says what the chapter's words say.
func TestReadOfAllShortTexts(t *testing.T) {
	const alphabet = "\x00\x01\x02\x80\n0c "
	for _, head := range []string{"aig 3 2 0 0 1\n", "aig 2 0 0 0 2\n", "aig 2 0 1 0 1\n", "aig 5 5 0 0 0 0 0 1\n", "aig 1 0 0 1 1\n"} {
		for n := range 6 {
			text := make([]byte, n)
			var fill func(i int)
			fill = func(i int) {
				if i == n {
					sameAsWords(t, head+string(text))
					return
				}
				for _, b := range []byte(alphabet) {
					text[i] = b
					fill(i + 1)
				}
			}
			fill(0)
		}
	}
}
