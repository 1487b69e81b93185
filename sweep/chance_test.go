package sweep_test

import (
	"math/rand"
	"testing"

	"trestle/api"
	"trestle/samples"
)

// once is 1 in one of n cases, else 0.
func once(r *rand.Rand, n int) int {
	if r.Intn(n) == 0 {
		return 1
	}
	return 0
}

// tall is a circuit by chance in which each gate and each latch uses what stands shortly ahead of it.
func tall(r *rand.Rand) api.Circuit {
	c := api.Circuit{Max: 2, Inputs: []int{2, 4}}
	near := func() int { return 2*max(0, c.Max-r.Intn(4)) + r.Intn(2) }
	for range 4 + r.Intn(20) {
		x, y := near(), near()
		c.Max++
		out := 2 * c.Max
		if r.Intn(2) == 0 {
			c.Latches = append(c.Latches, api.Latch{Lit: out, Next: x, Reset: [...]int{0, 0, 0, 1, 1, out}[r.Intn(6)]})
		} else {
			c.Ands = append(c.Ands, api.And{Out: out, Left: x, Right: y})
		}
		c.Outputs = append(c.Outputs, near())
	}
	return c
}

// twins is, of some latches and gates of a circuit, the literals of others that are to do the same.
type twins map[int]int

// of is a literal or, as often, its twin.
func (w twins) of(l int, r *rand.Rand) int {
	if k := w[l-l%2]; k > 0 && r.Intn(2) == 0 {
		return k + l%2
	}
	return l
}

// doubled is a circuit in which most latches and gates of another one have a twin that does the same or, seldom, almost the same; what uses something uses its twin or itself.
func doubled(c api.Circuit, r *rand.Rand) api.Circuit {
	w := twins{}
	double := func(l int) {
		if r.Intn(4) > 0 {
			c.Max++
			w[l] = 2 * c.Max
		}
	}
	for _, l := range c.Latches {
		double(l.Lit)
	}
	for _, g := range c.Ands {
		double(g.Out)
	}
	for _, list := range append(c.Justice, c.Outputs, c.Bads, c.Constraints, c.Fairness) {
		for i, l := range list {
			list[i] = w.of(l, r)
		}
	}
	for i, l := range c.Latches {
		c.Latches[i].Next = w.of(l.Next, r)
		if k := w[l.Lit]; k > 0 {
			c.Latches = append(c.Latches, latchLike(l, k, w.of(l.Next, r), r))
		}
	}
	for i, g := range c.Ands {
		c.Ands[i].Left, c.Ands[i].Right = w.of(g.Left, r), w.of(g.Right, r)
		if k := w[g.Out]; k > 0 {
			c.Ands = append(c.Ands, api.And{Out: k, Left: w.of(g.Right, r), Right: w.of(g.Left, r) ^ once(r, 20)})
		}
	}
	r.Shuffle(len(c.Latches), func(i, k int) { c.Latches[i], c.Latches[k] = c.Latches[k], c.Latches[i] })
	r.Shuffle(len(c.Ands), func(i, k int) { c.Ands[i], c.Ands[k] = c.Ands[k], c.Ands[i] })
	return c
}

// latchLike is a latch that does the same as another one or, seldom, almost the same.
func latchLike(l api.Latch, lit, next int, r *rand.Rand) api.Latch {
	like := api.Latch{Lit: lit, Next: next ^ once(r, 10), Reset: l.Reset}
	if l.Reset == l.Lit || once(r, 10) == 1 {
		like.Reset = lit
	}
	return like
}

// someTrace is a trace of what a circuit is swept to.
func someTrace(t *testing.T, c api.Circuit, rows int, r *rand.Rand) api.Trace {
	t.Helper()
	n, _ := swept(t, c)
	return samples.Trace(n, rows, r.Intn)
}

// 11.1, 11.2: circuits by chance, with a few of all things, and traces of them; most have latches that are left away, in one round or more.
func TestByChance(t *testing.T) {
	r := rand.New(rand.NewSource(111))
	rounds := map[int]int{}
	for range 20000 {
		c := doubled(samples.Circuit(r.Intn), r)
		_, _, k := sweepOf(c)
		rounds[k]++
		asWords(t, c, someTrace(t, c, 1+r.Intn(4), r))
	}
	if min(rounds[0], rounds[1]) < 5000 || rounds[2] < 100 {
		t.Errorf("rounds that left latches away: %v", rounds)
	}
}

// 11.1, 11.2: the same of more gates and latches, that are seen to be alike one behind the other.
func TestTallByChance(t *testing.T) {
	r := rand.New(rand.NewSource(112))
	rounds := map[int]int{}
	for range 10000 {
		c := doubled(doubled(tall(r), r), r)
		_, _, k := sweepOf(c)
		rounds[min(k, 4)]++
		asWords(t, c, someTrace(t, c, 1, r))
	}
	if min(rounds[1], rounds[2], rounds[3]) < 500 || rounds[4] < 100 {
		t.Errorf("rounds that left latches away: %v", rounds)
	}
}
