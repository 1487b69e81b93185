package samples

import (
	"strconv"
	"strings"

	"trestle/api"
)

// Lines is a text of lines, each with its end.
func Lines(l ...string) string {
	if len(l) == 0 {
		return ""
	}
	return strings.Join(l, "\n") + "\n"
}

// Numbers is numbers with a blank between.
func Numbers(n ...int) string {
	all := make([]string, len(n))
	for i, x := range n {
		all[i] = strconv.Itoa(x)
	}
	return strings.Join(all, " ")
}

// Short is a text as it can be told, if it is too long.
func Short(s string) string {
	if len(s) > 300 {
		return strconv.Quote(s[:100]) + " .. " + strconv.Quote(s[len(s)-20:])
	}
	return strconv.Quote(s)
}

// Least picks 0: by it a text leaves out all that it may.
func Least(int) int { return 0 }

// Text is a text of which a circuit is read: whether a Reset of 0, counts of 0 at the header's end, and the line ahead of no comments are told or left out, pick says.
func Text(c api.Circuit, pick func(n int) int) string {
	all := []string{"aag " + counts(c, pick)}
	all = append(all, single(c.Inputs)...)
	for _, l := range c.Latches {
		all = append(all, Numbers(append([]int{l.Lit}, told(l, pick)...)...))
	}
	all = append(all, middle(c)...)
	for _, g := range c.Ands {
		all = append(all, Numbers(g.Out, g.Left, g.Right))
	}
	return Lines(append(all, end(c, pick)...)...)
}

// Bytes is a text in the binary format of which a circuit that has the binary order is read; pick says what it says of Text.
func Bytes(c api.Circuit, pick func(n int) int) string {
	all := []string{"aig " + counts(c, pick)}
	for _, l := range c.Latches {
		all = append(all, Numbers(told(l, pick)...))
	}
	all = append(all, middle(c)...)
	gates := ""
	for _, g := range c.Ands {
		gates += Groups(g.Out-g.Left) + Groups(g.Left-g.Right)
	}
	return Lines(all...) + gates + Lines(end(c, pick)...)
}

// Groups is a number as bytes of seven bits each, as few as there must be, the lowest first.
func Groups(n int) string {
	if n < 128 {
		return string([]byte{byte(n)})
	}
	return string([]byte{byte(128 + n%128)}) + Groups(n/128)
}

// counts is the numbers of a circuit's header.
func counts(c api.Circuit, pick func(n int) int) string {
	all := []int{c.Max, len(c.Inputs), len(c.Latches), len(c.Outputs), len(c.Ands), len(c.Bads), len(c.Constraints), len(c.Justice), len(c.Fairness)}
	for len(all) > 5 && all[len(all)-1] == 0 && pick(2) == 0 {
		all = all[:len(all)-1]
	}
	return Numbers(all...)
}

// told is what a latch's line has in both formats.
func told(l api.Latch, pick func(n int) int) []int {
	if l.Reset == 0 && pick(2) == 0 {
		return []int{l.Next}
	}
	return []int{l.Next, l.Reset}
}

// single is a line for each number.
func single(list []int) []string {
	out := make([]string, len(list))
	for i, n := range list {
		out[i] = Numbers(n)
	}
	return out
}

// middle is the lines between latches and gates.
func middle(c api.Circuit) []string {
	var all []string
	for _, list := range [...][]int{c.Outputs, c.Bads, c.Constraints} {
		all = append(all, single(list)...)
	}
	for _, j := range c.Justice {
		all = append(all, Numbers(len(j)))
	}
	for _, j := range c.Justice {
		all = append(all, single(j)...)
	}
	return append(all, single(c.Fairness)...)
}

// end is the lines of symbols and comments.
func end(c api.Circuit, pick func(n int) int) []string {
	var all []string
	for _, s := range c.Symbols {
		all = append(all, string([]byte{s.Kind})+strconv.Itoa(s.At)+" "+s.Name)
	}
	if len(c.Comments) > 0 || pick(2) == 1 {
		all = append(append(all, "c"), c.Comments...)
	}
	return all
}
