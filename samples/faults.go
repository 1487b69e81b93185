package samples

import (
	"math"
	"slices"
	"strings"

	"trestle/api"
)

// Fault is something wrong that is done to the circuit Right, and what layer 3's Check says of it.
type Fault struct {
	Name string
	At   int
	Want api.Errno
	Do   func(c *api.Circuit)
}

// Faults stand in the order in which the chapter of layer 3 names them, so that the first one of several is the one that is answered. None takes away what another one did.
func Faults() []Fault {
	return slices.Concat(sizeFaults(), definedFaults(), usedFaults(), endFaults())
}

// Circuit is the circuit Right with that done to it alone.
func (f Fault) Circuit() api.Circuit {
	c := Clone(Right())
	f.Do(&c)
	return c
}

func sizeFaults() []Fault {
	return []Fault{
		{"Max below 0", 0, api.ErrRange, func(c *api.Circuit) { c.Max = -1 }},
		{"too many comments", 0, api.ErrLong, func(c *api.Circuit) { c.Comments = append(c.Comments, make([]string, api.MaxItems)...) }},
	}
}

func definedFaults() []Fault {
	return []Fault{
		{"an odd input", 0, api.ErrLit, func(c *api.Circuit) { c.Inputs[0] = 17 }},
		{"an input twice", 1, api.ErrTwice, func(c *api.Circuit) { c.Inputs[1] = 8 }},
		{"a reset that is none", 0, api.ErrReset, func(c *api.Circuit) { c.Latches[0].Reset = 7 }},
		{"a latch below 0", 1, api.ErrLit, func(c *api.Circuit) { c.Latches[1].Lit = -2 }},
		{"a latch twice", 2, api.ErrTwice, func(c *api.Circuit) { c.Latches[2].Lit = 6 }},
		{"and its reset", 2, api.ErrReset, func(c *api.Circuit) { c.Latches[2].Reset = 2 }},
		{"a gate above Max", 0, api.ErrLit, func(c *api.Circuit) { c.Ands[0].Out = 26 }},
		{"a gate twice", 3, api.ErrTwice, func(c *api.Circuit) { c.Ands[3].Out = 18 }},
	}
}

func usedFaults() []Fault {
	return []Fault{
		{"Next above Max", 0, api.ErrLit, func(c *api.Circuit) { c.Latches[0].Next = 26 }},
		{"Next loose", 1, api.ErrLoose, func(c *api.Circuit) { c.Latches[1].Next = 10 }},
		{"an output below 0", 0, api.ErrLit, func(c *api.Circuit) { c.Outputs[0] = -1 }},
		{"an output loose", 2, api.ErrLoose, func(c *api.Circuit) { c.Outputs[2] = 11 }},
		{"a bad above Max", 1, api.ErrLit, func(c *api.Circuit) { c.Bads[1] = 27 }},
		{"a constraint loose", 0, api.ErrLoose, func(c *api.Circuit) { c.Constraints[0] = 13 }},
		{"a justice literal below 0", 1, api.ErrLit, func(c *api.Circuit) { c.Justice[1][0] = -2 }},
		{"a later one loose", 1, api.ErrLoose, func(c *api.Circuit) { c.Justice[1][1] = 16 }},
		{"a justice literal loose", 2, api.ErrLoose, func(c *api.Circuit) { c.Justice[2][0] = 17 }},
		{"a fairness literal above Max", 0, api.ErrLit, func(c *api.Circuit) { c.Fairness[0] = math.MaxInt }},
		{"Left loose", 0, api.ErrLoose, func(c *api.Circuit) { c.Ands[0].Left = 10 }},
		{"Right above Max", 0, api.ErrLit, func(c *api.Circuit) { c.Ands[0].Right = 26 }},
		{"Left below 0", 2, api.ErrLit, func(c *api.Circuit) { c.Ands[2].Left = math.MinInt }},
		{"Right loose", 2, api.ErrLoose, func(c *api.Circuit) { c.Ands[2].Right = 11 }},
	}
}

func endFaults() []Fault {
	return []Fault{
		{"a gate that comes round over three", 1, api.ErrCycle, func(c *api.Circuit) { c.Ands[1].Left, c.Ands[3].Right = 25, 23 }},
		{"a gate that uses itself", 3, api.ErrCycle, func(c *api.Circuit) { c.Ands[3].Left = 24 }},
		{"a kind that is none", 0, api.ErrSymbol, func(c *api.Circuit) { c.Symbols[0].Kind = 'x' }},
		{"a symbol of no place", 1, api.ErrSymbol, func(c *api.Circuit) { c.Symbols[1].At = 2 }},
		{"a symbol without a name", 2, api.ErrSymbol, func(c *api.Circuit) { c.Symbols[2].Name = "" }},
		{"a name too long", 3, api.ErrSymbol, func(c *api.Circuit) { c.Symbols[3].Name = strings.Repeat("n", api.MaxName+1) }},
		{"a byte below 32", 4, api.ErrSymbol, func(c *api.Circuit) { c.Symbols[4].Name = "a\x1f" }},
		{"a symbol twice", 6, api.ErrSymbol, func(c *api.Circuit) { c.Symbols[6] = api.Symbol{Kind: 'c', At: 0, Name: "d"} }},
		{"a comment with a line's end", 0, api.ErrComment, func(c *api.Circuit) { c.Comments[0] = "\n" }},
		{"a later one", 1, api.ErrComment, func(c *api.Circuit) { c.Comments[1] = "a\nb" }},
	}
}
