package samples

import (
	"math"
	"slices"
	"strings"

	"trestle/api"
)

// Changed is a text with a byte of some put in, put over another one or taken out, with a line twice or not at all, or with two lines in each other's place.
func Changed(s, some string, pick func(n int) int) string {
	if pick(3) > 0 {
		at, put := pick(len(s)+1), SomeByte(some, pick)
		if pick(3) == 0 {
			put = ""
		}
		return s[:at] + put + s[min(len(s), at+pick(2)):]
	}
	all := strings.SplitAfter(s, "\n")
	i, k := pick(len(all)), pick(len(all))
	switch pick(3) {
	case 0:
		all[i], all[k] = all[k], all[i]
	case 1:
		all[i] = ""
	default:
		all[i] += all[k]
	}
	return strings.Join(all, "")
}

// SomeByte is one of a text's bytes.
func SomeByte(s string, pick func(n int) int) string {
	i := pick(len(s))
	return s[i : i+1]
}

// WrongLines is what may not stand in place of a line of numbers.
func WrongLines(s string) []string {
	first, rest, _ := strings.Cut(s, " ")
	if rest != "" {
		rest = " " + rest
	}
	out := []string{
		"", " ", "x", "\x00", "c", "i0 x", " " + s, s + " ", "\t" + s, s + "\t", s + "\r", "\r" + s, s + "x", "x" + s, s + "\x00", "0" + s, "00" + s, "+" + s, "-" + s, "１" + rest, "0x" + s, s + ".", s + "_0",
		"2147483648" + rest, "4294967296" + rest, "18446744073709551616" + rest, "18446744073709551618" + rest, strings.Repeat("9", 500) + rest, first + "0000000000" + rest + "e",
		"-1" + rest, "-0" + rest, "007" + rest,
	}
	if rest != "" {
		out = append(out, strings.Replace(s, " ", "  ", 1), strings.Replace(s, " ", "\t", 1), strings.Replace(s, " ", "\n", 1), strings.Replace(s, " ", " +", 1), strings.Replace(s, " ", " 0", 1)+"0", first+" x", first+" "+first+" 2147483648")
	}
	return out
}

// NumbersOf is all places of a circuit where a number stands.
func NumbersOf(c *api.Circuit) []*int {
	out := []*int{&c.Max}
	for _, list := range append(slices.Clone(c.Justice), c.Inputs, c.Outputs, c.Bads, c.Constraints, c.Fairness) {
		for i := range list {
			out = append(out, &list[i])
		}
	}
	for i := range c.Latches {
		out = append(out, &c.Latches[i].Lit, &c.Latches[i].Next, &c.Latches[i].Reset)
	}
	for i := range c.Ands {
		out = append(out, &c.Ands[i].Out, &c.Ands[i].Left, &c.Ands[i].Right)
	}
	for i := range c.Symbols {
		out = append(out, &c.Symbols[i].At)
	}
	return out
}

// AnyNumbers is a circuit by chance of which one or two numbers are put anywhere.
func AnyNumbers(pick func(n int) int) api.Circuit {
	some := [...]int{-2, -1, 0, 1, 2, 3, 4, 9, 40, api.MaxVar, 2 * api.MaxVar, 2*api.MaxVar + 1, api.MaxNumber, math.MaxInt, math.MinInt}
	c := Circuit(pick)
	all := NumbersOf(&c)
	for range 1 + pick(2) {
		*all[pick(len(all))] = some[pick(len(some))]
	}
	return c
}

// CodesOfNumbers is what layer 3's Check answers of such circuits.
func CodesOfNumbers() []api.Errno {
	return []api.Errno{api.OK, api.ErrRange, api.ErrLit, api.ErrTwice, api.ErrLoose, api.ErrReset, api.ErrCycle, api.ErrSymbol}
}
