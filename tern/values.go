package tern

import "trestle/api"

// The values.
const (
	no = iota
	yes
	either
)

// both is the conjunction of two values.
var both = [3][3]int{
	{no, no, no},
	{no, yes, either},
	{no, either, either},
}

// contrary is the value of a negated literal.
var contrary = [3]int{yes, no, either}

// isValue tells whether a number is a value.
func isValue(v int) bool { return no <= v && v <= either }

// isRow tells whether a list is so many values.
func isRow(row []int, n int) bool {
	if len(row) != n {
		return false
	}
	for _, v := range row {
		if !isValue(v) {
			return false
		}
	}
	return true
}

// valueOf is a literal's value.
func valueOf(values []int, l int) int {
	if l%2 == 1 {
		return contrary[values[l/2]]
	}
	return values[l/2]
}

// gateOf is a gate's value by those of its two literals.
func gateOf(values []int, g api.And) int {
	return both[valueOf(values, g.Left)][valueOf(values, g.Right)]
}

// valuesOf is the values of all variables; the gates are told in an order in which each one stands behind those that it uses.
func valuesOf(c api.Circuit, gates, latches, inputs []int) []int {
	values := make([]int, c.Max+1)
	for v := 1; v <= c.Max; v++ {
		values[v] = either
	}
	for i, l := range c.Inputs {
		values[l/2] = inputs[i]
	}
	for i, l := range c.Latches {
		values[l.Lit/2] = latches[i]
	}
	for _, i := range gates {
		g := c.Ands[i]
		values[g.Out/2] = gateOf(values, g)
	}
	return values
}

// rowOf is the latches' row.
func rowOf(c api.Circuit, values []int) []int {
	row := make([]int, len(c.Latches))
	for i, l := range c.Latches {
		row[i] = values[l.Lit/2]
	}
	return row
}

// allTrue says what is wrong with literals all of which must have the value 1.
func allTrue(values, lits []int) api.Errno {
	if len(lits) > api.MaxItems {
		return api.ErrLong
	}
	// Each literal must be one, ahead of any value that is wrong.
	for _, l := range lits {
		if l < 0 || l/2 >= len(values) {
			return api.ErrRange
		}
	}
	for _, l := range lits {
		if valueOf(values, l) != yes {
			return api.ErrFalse
		}
	}
	return api.OK
}
