package tern_test

import (
	"math/rand"
	"slices"
	"strconv"
	"testing"

	"trestle/api"
	"trestle/samples"
)

// 8.1: the example of the chapter, and rows of a circuit whose gates stand ahead of those that they use, and of which some variables are not defined.
func TestValuesByHand(t *testing.T) {
	one := api.Circuit{Max: 3, Inputs: []int{2}, Latches: []api.Latch{{Lit: 4, Next: 6}}, Ands: []api.And{{Out: 6, Left: 4, Right: 2}}}
	values(t, one, row("2"), row("0"), row("0020"))
	values(t, one, row("2"), row("1"), row("0122"))
	// The inputs are 4 and 1, the latches 3, 7 and 2; 9 is: not 1, and 3; 11: 9 and 9; 10: 11, and not 9; 12: false. 5, 6 and 8 are not defined.
	for _, x := range []struct{ latches, inputs, values, next string }{
		{"000", "00", "0000022020000", "101"},
		{"111", "01", "0111022120000", "100"},
		{"222", "22", "0222222222220", "222"},
		{"102", "12", "0221122022220", "211"},
		{"021", "20", "0010222220000", "122"},
		{"120", "20", "0001222221010", "122"},
	} {
		c := samples.Right()
		values(t, c, row(x.latches), row(x.inputs), row(x.values))
		steps(t, c, row(x.latches), row(x.inputs), row(x.next))
	}
}

// 8.1, R3: circuits of nothing, with variables that nothing defines, and with one thing.
func TestValuesOfLittle(t *testing.T) {
	for _, none := range [][]int{nil, {}} {
		for _, most := range []int{0, 1, 7, api.MaxVar} {
			c := api.Circuit{Max: most}
			want := twos(most + 1)
			want[0] = 0
			values(t, c, none, none, want)
			steps(t, c, none, none, nil)
		}
	}
	for _, c := range []api.Circuit{
		{Max: 1, Inputs: []int{2}}, {Max: 3, Inputs: []int{4}}, {Max: 3, Inputs: []int{6}},
		{Max: 1, Latches: []api.Latch{{Lit: 2, Next: 2}}}, {Max: 3, Latches: []api.Latch{{Lit: 4, Next: 5}}},
		{Max: 1, Ands: []api.And{{Out: 2, Left: 1, Right: 1}}}, {Max: 3, Ands: []api.And{{Out: 6, Left: 1, Right: 0}}},
	} {
		byAllRows(t, c)
	}
	values(t, api.Circuit{Max: 3, Ands: []api.And{{Out: 4, Left: 1, Right: 1}}}, nil, nil, row("0212"))
	values(t, api.Circuit{Max: 3, Latches: []api.Latch{{Lit: 4}}}, row("0"), nil, row("0202"))
}

// 8.1: a gate of any two literals, constants too, negated or not, by all values of an input and a latch; each literal as Next too.
func TestGates(t *testing.T) {
	conjunction := [3]string{"000", "012", "022"}
	negated := "102"
	for x := range 3 {
		for y := range 3 {
			// The values of the literals 0 to 5.
			lits := row("01" + strconv.Itoa(x) + negated[x:x+1] + strconv.Itoa(y) + negated[y:y+1])
			for left, a := range lits {
				for right, b := range lits {
					c := api.Circuit{Max: 3, Inputs: []int{2}, Latches: []api.Latch{{Lit: 4, Next: left}}, Ands: []api.And{{Out: 6, Left: left, Right: right}}}
					values(t, c, []int{y}, []int{x}, []int{0, x, y, int(conjunction[a][b] - '0')})
					steps(t, c, []int{y}, []int{x}, []int{a})
					c.Latches[0].Next = 7
					steps(t, c, []int{y}, []int{x}, []int{int(negated[conjunction[a][b]-'0'] - '0')})
				}
			}
		}
	}
}

// 8.1: all circuits of two gates over an input and a latch, in both orders, by all rows.
func TestTwoGates(t *testing.T) {
	for _, c := range samples.TwoGates() {
		byAllRows(t, c)
		slices.Reverse(c.Ands)
		byAllRows(t, c)
	}
}

// 8.1: rows go by the order of the lists, not by the variables.
func TestOrderOfLists(t *testing.T) {
	c := api.Circuit{Max: 5, Inputs: []int{8, 2}, Latches: []api.Latch{{Lit: 10, Next: 8}, {Lit: 4, Next: 10}, {Lit: 6, Next: 2}}}
	values(t, c, row("120"), row("02"), row("022001"))
	values(t, c, row("012"), row("21"), row("011220"))
	steps(t, c, row("120"), row("02"), row("012"))
	steps(t, c, row("012"), row("21"), row("201"))
	byAllRows(t, c)
}

// chain is a circuit of an input and gates up to the greatest variable, each one of what the one ahead of it is.
func chain() api.Circuit {
	c := api.Circuit{Max: api.MaxVar, Inputs: []int{2}}
	for v := 2; v <= api.MaxVar; v++ {
		c.Ands = append(c.Ands, api.And{Out: 2 * v, Left: 2*v - 2, Right: 1})
	}
	return c
}

// 8.1: as many gates as there may be, each of which uses the one behind it, or ahead of it.
func TestLongChains(t *testing.T) {
	c := chain()
	for range 2 {
		for v := range 3 {
			want := slices.Repeat([]int{v}, api.MaxVar+1)
			want[0] = 0
			values(t, c, nil, []int{v}, want)
		}
		slices.Reverse(c.Ands)
	}
}

// shifter is a circuit of an input and latches up to the greatest variable, each of which takes what the one ahead of it was.
func shifter() api.Circuit {
	c := api.Circuit{Max: api.MaxVar, Inputs: []int{2}}
	for v := 2; v <= api.MaxVar; v++ {
		c.Latches = append(c.Latches, api.Latch{Lit: 2 * v, Next: 2*v - 2})
	}
	return c
}

// 8.1: as many latches, and as many inputs, as there may be.
func TestMostThings(t *testing.T) {
	r := rand.New(rand.NewSource(81))
	c := shifter()
	latches := someRow(len(c.Latches), r.Intn)
	values(t, c, latches, row("2"), slices.Concat(row("02"), latches))
	steps(t, c, latches, row("2"), append(row("2"), latches[:len(latches)-1]...))
	c = api.Circuit{Max: api.MaxVar}
	for v := 1; v <= api.MaxVar; v++ {
		c.Inputs = append(c.Inputs, 2*v)
	}
	inputs := someRow(api.MaxVar, r.Intn)
	values(t, c, nil, inputs, append(row("0"), inputs...))
}

// 8.1: circuits by chance, by all rows or by some, are as the chapter's words say.
func TestValuesByChance(t *testing.T) {
	r := rand.New(rand.NewSource(82))
	for n := range 5000 {
		c := samples.Circuit(r.Intn)
		if n < 150 {
			byAllRows(t, c)
		}
		for range 5 {
			asWords(t, c, someRow(len(c.Latches), r.Intn), someRow(len(c.Inputs), r.Intn))
		}
	}
}

// 8.1: what stands in lists that are not named there changes nothing: outputs, bads, constraints, justice, fairness, symbols, comments, resets.
func TestWhatIsNotNamed(t *testing.T) {
	r := rand.New(rand.NewSource(83))
	for range 500 {
		c := samples.Circuit(r.Intn)
		bare := api.Circuit{Max: c.Max, Inputs: c.Inputs, Latches: slices.Clone(c.Latches), Ands: c.Ands}
		latches, inputs := someRow(len(c.Latches), r.Intn), someRow(len(c.Inputs), r.Intn)
		want, next := valuesOf(c, latches, inputs), stepOf(c, latches, inputs)
		settled, times := settleOf(c)
		settles(t, bare, settled, times)
		for i, l := range bare.Latches {
			bare.Latches[i].Reset = [...]int{0, 1, l.Lit}[r.Intn(3)]
		}
		values(t, bare, latches, inputs, want)
		steps(t, bare, latches, inputs, next)
	}
}

// 8.1: literals of all values, of the first and the last variable, negated or not.
func TestLit(t *testing.T) {
	literal(t, []int{0, 2, 1}, 5, 0)
	for x := range 3 {
		for y := range 3 {
			for l, want := range [...]int{0, 1, x, notOf(x), y, notOf(y)} {
				literal(t, []int{0, x, y}, l, want)
			}
		}
	}
	most := twos(2 * api.MaxItems)
	most[0], most[2*api.MaxItems-1] = 0, 1
	literal(t, most, 0, 0)
	literal(t, most, 1, 1)
	literal(t, most, 2, 2)
	literal(t, most, 4*api.MaxItems-4, 2)
	literal(t, most, 4*api.MaxItems-2, 1)
	literal(t, most, 4*api.MaxItems-1, 0)
	// Only the literal's own value is looked at.
	literal(t, []int{-1, 1, 3}, 2, 1)
	literal(t, []int{7, 1}, 3, 0)
}

// 8.1: what Lit says by what Values says is the value of the circuit's literal.
func TestLitOfValues(t *testing.T) {
	r := rand.New(rand.NewSource(84))
	for range 1000 {
		c := samples.Circuit(r.Intn)
		latches, inputs := someRow(len(c.Latches), r.Intn), someRow(len(c.Inputs), r.Intn)
		all := valuesOf(c, latches, inputs)
		for l := range 2*c.Max + 2 {
			literal(t, all, l, valueOf(c, latches, inputs, l))
		}
		refuse(t, c, litCall(all, 2*c.Max+2), api.ErrRange)
	}
}
