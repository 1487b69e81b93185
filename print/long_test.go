package print_test

import (
	"strings"
	"testing"

	"trestle/api"
	"trestle/print"
	"trestle/samples"
)

// commented is a circuit of nothing with comments of which the last one fills its text up to some bytes, in each format.
func commented(bytes int, comments ...string) api.Circuit {
	c := api.Circuit{Comments: append(comments, "")}
	left := bytes - len(samples.Text(c, samples.Least))
	c.Comments[len(comments)] = x(left)
	return c
}

// latchesOf is n latches that may begin either way; in the text format they are longer than in the binary one.
func latchesOf(n int) api.Circuit {
	c := api.Circuit{Max: n}
	for i := range n {
		c.Latches = append(c.Latches, api.Latch{Lit: 2*i + 2, Next: 2*n + 1, Reset: 2*i + 2})
	}
	return c
}

// gatesOf is n gates in the binary order.
func gatesOf(n int) api.Circuit {
	c := api.Circuit{Max: n}
	for i := range n {
		c.Ands = append(c.Ands, api.And{Out: 2*i + 2, Left: 2*i + 1, Right: 2 * i})
	}
	return c
}

// 6.1, 6.2: texts of as many bytes as may be, and of one more and of many more, whatever makes them so long.
func TestLongTexts(t *testing.T) {
	for name, call := range printers() {
		for _, comments := range [][]string{nil, {""}, {x(api.MaxText / 2), "a"}} {
			c := commented(api.MaxText, comments...)
			s, e := call(c)
			if len(s) != api.MaxText || e != api.OK || !strings.HasSuffix(s, "\nc\n"+strings.Join(c.Comments, "\n")+"\n") {
				t.Errorf("%s: %d bytes, %v: %s", name, len(s), e, samples.Short(s))
			}
			refuses(t, name, call, commented(api.MaxText+1, comments...), api.ErrLong)
			refuses(t, name, call, commented(api.MaxText+2, comments...), api.ErrLong)
			refuses(t, name, call, commented(2*api.MaxText, comments...), api.ErrLong)
		}
	}
}

// 6.1, 6.2: a text that is too long by one part stays so, though a shorter one behind it would have room.
func TestLongPartAheadOfShortOnes(t *testing.T) {
	long := x(api.MaxText)
	for name, call := range printers() {
		for _, comments := range [][]string{{long}, {long, ""}, {"", long, "x", ""}, {x(api.MaxText - 16), "", ""}} {
			c := samples.Right()
			if name == "Bytes" {
				c = binaryOf(t, c)
			}
			c.Comments = comments
			refuses(t, name, call, c, api.ErrLong)
		}
	}
	for _, comments := range [][]string{{long}, {long, ""}, {"", long, "x"}} {
		tails(t, one('i', 0, "x"), comments, "", api.ErrLong)
	}
	tails(t, []api.Symbol{{Kind: 'i', Name: long}, {Kind: 'i', At: 1, Name: "x"}}, []string{""}, "", api.ErrLong)
}

// 6.1, 6.2: what is too long as lines of latches, or of gates, is not in the binary format.
func TestLongInOneFormat(t *testing.T) {
	for _, c := range []api.Circuit{latchesOf(api.MaxItems), gatesOf(api.MaxItems)} {
		refuses(t, "Text", print.Text, c, api.ErrLong)
		bytes(t, c, samples.Bytes(c, samples.Least))
	}
	// Up to the last latch that has room, and one more.
	for n := api.MaxItems; ; n-- {
		c := latchesOf(n)
		want := samples.Text(c, samples.Least)
		if len(want) <= api.MaxText {
			texts(t, c, want)
			refuses(t, "Text", print.Text, latchesOf(n+1), api.ErrLong)
			return
		}
		n -= (len(want) - api.MaxText) / 20
	}
}

// 6.1, 6.2: what is too long in the binary format as lines of literals.
func TestLongLists(t *testing.T) {
	c := inputs(api.MaxItems)
	c.Outputs, c.Bads = sameNumbers(api.MaxItems, 32768), sameNumbers(api.MaxItems, 32769)
	bytes(t, c, samples.Bytes(c, samples.Least))
	c.Constraints = c.Bads
	for name, call := range printers() {
		refuses(t, name, call, c, api.ErrLong)
	}
}

// P1: comments that share their memory and are, told one by one, far more than a text may have.
func TestFarTooLong(t *testing.T) {
	long, all := x(1<<18), make([]string, 1<<12)
	for i := range all {
		all[i] = long
	}
	for name, call := range printers() {
		refuses(t, name, call, api.Circuit{Comments: all}, api.ErrLong)
	}
	tails(t, nil, all, "", api.ErrLong)
}
