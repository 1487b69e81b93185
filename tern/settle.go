package tern

import "trestle/api"

// settle makes 2, all at once, the latches that would not keep their values in a step, again and again until each one would, and tells how often there were such. Behind the first time these are but latches whose Next has been made 2 since the last one.
func settle(c api.Circuit, s *spread) int {
	takers := takersOf(c)
	turning := unlike(c, s.values)
	times := 0
	for len(turning) > 0 {
		times++
		from := len(s.trail)
		for _, i := range turning {
			s.loosen(c.Latches[i].Lit / 2)
		}
		turning = turning[:0]
		for _, was := range s.trail[from:] {
			for _, i := range takers[was.variable] {
				if s.values[c.Latches[i].Lit/2] != either {
					turning = append(turning, i)
				}
			}
		}
	}
	return times
}

// takersOf gives of each variable the latches whose Next has it.
func takersOf(c api.Circuit) [][]int {
	takers := make([][]int, c.Max+1)
	for i, l := range c.Latches {
		takers[l.Next/2] = append(takers[l.Next/2], i)
	}
	return takers
}

// unlike is the latches that are not 2, and have not the value of their Next.
func unlike(c api.Circuit, values []int) []int {
	var out []int
	for i, l := range c.Latches {
		v := values[l.Lit/2]
		if v != either && v != valueOf(values, l.Next) {
			out = append(out, i)
		}
	}
	return out
}
