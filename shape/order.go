package shape

import (
	"container/heap"
	"math"
	"sort"

	"trestle/api"
)

// none stands where there is no gate.
const none = -1

// Order is the numbers of all gates, each behind those that it uses: the least one that may come is always the next.
func Order(c api.Circuit) ([]int, api.Errno) {
	if _, e := Check(c); e != api.OK {
		return nil, e
	}
	return order(usesOf(c)), api.OK
}

// usesOf gives of each gate the gates whose Outs its Left and its Right are, or none.
func usesOf(c api.Circuit) [][2]int {
	gateOf := make([]int, c.Max+1)
	for v := range gateOf {
		gateOf[v] = none
	}
	for i, g := range c.Ands {
		gateOf[g.Out/2] = i
	}
	uses := make([][2]int, len(c.Ands))
	for i, g := range c.Ands {
		uses[i] = [2]int{gateOf[g.Left/2], gateOf[g.Right/2]}
	}
	return uses
}

// order goes along gates of which none comes round. A gate that can't come yet waits at one that it uses; when that has come, it is looked at again, ahead of all that were not looked at yet, since these have greater numbers.
func order(uses [][2]int) []int {
	told := make([]bool, len(uses))
	waiting := make([][]int, len(uses))
	again := &numbers{}
	out := make([]int, 0, len(uses))
	next := 0
gates:
	for len(out) < len(uses) {
		i := next
		if again.Len() > 0 {
			i = heap.Pop(again).(int)
		} else {
			next++
		}
		for _, u := range uses[i] {
			if u != none && !told[u] {
				waiting[u] = append(waiting[u], i)
				continue gates
			}
		}
		told[i] = true
		out = append(out, i)
		for _, w := range waiting[i] {
			heap.Push(again, w)
		}
	}
	return out
}

// numbers is a heap of gates' numbers, the least one first.
type numbers struct{ sort.IntSlice }

// Push and Pop are called by package heap, with numbers alone.
func (n *numbers) Push(x any) { n.IntSlice = append(n.IntSlice, x.(int)) }

func (n *numbers) Pop() any {
	last := len(n.IntSlice) - 1
	x := n.IntSlice[last]
	n.IntSlice = n.IntSlice[:last]
	return x
}

// firstRound is the least gate that comes round, or none. Gates that come to one another are found as a group, when the first of them that was met has been followed to its end (Tarjan's way), so each gate is followed once.
func firstRound(uses [][2]int) int {
	// closed stands for a gate whose group is known: no gate is met so late.
	const unmet, closed = 0, math.MaxInt
	first, count := none, 0
	met := make([]int, len(uses)) // at which count each gate was met
	var open []int
	// follow tells the least count of an open gate to which a gate comes, or closed.
	var follow func(i int) int
	follow = func(i int) int {
		count++
		own, place := count, len(open)
		met[i] = own
		open = append(open, i)
		least, itself := own, false
		for _, u := range uses[i] {
			switch {
			case u == none:
			case met[u] == unmet:
				least = min(least, follow(u))
			default:
				itself = itself || u == i
				least = min(least, met[u])
			}
		}
		if least < own {
			return least
		}
		group := open[place:]
		open = open[:place]
		for _, g := range group {
			met[g] = closed
			if (itself || len(group) > 1) && (first == none || g < first) {
				first = g
			}
		}
		return closed
	}
	for i := range uses {
		if met[i] == unmet {
			follow(i)
		}
	}
	return first
}
