package smt

import "surety/api"

// mostCost: what costs more counts as this, so that no sum overflows.
const mostCost = 1 << 20

// truth is of each variable whether it is true (variable 1 at the place 0); one that isn't there isn't.
type truth []bool

func (t truth) of(v int) bool { return v <= len(t) && t[v-1] }

// literal: the true one of a variable.
func (t truth) literal(v int) int {
	if t.of(v) {
		return v
	}
	return -v
}

func (t truth) holds(l int) bool { return t.literal(unsigned(l)) == l }

// enough: true literals of atoms by which alone the formula is true. The fewer statements there are, the sooner they hold together.
func (c *coder) enough(t truth) []int {
	costs := c.costs(t)
	wanted := make([]bool, len(c.nodes))
	wanted[unsigned(c.root)] = true
	var list []int
	for v := c.vars(); v > 0; v-- { // what a variable is made of has lower numbers
		if !wanted[v] {
			continue
		}
		if isAtom(c.nodes[v].kind) {
			list = append(list, t.literal(v))
		}
		for _, l := range c.grounds(v, t, costs) {
			wanted[unsigned(l)] = true
		}
	}
	return list
}

// grounds: of what a variable is made of, literals by which it is what it is: where not all of them are true, one that isn't will do.
func (c *coder) grounds(v int, t truth, costs []int) []int {
	n := c.nodes[v]
	if n.kind != api.FAnd || t.of(v) {
		return n.lits
	}
	var best []int
	for _, l := range n.lits {
		if !t.holds(l) && (best == nil || costs[unsigned(l)] < costs[unsigned(best[0])]) {
			best = []int{l}
		}
	}
	return best
}

// costs: by variable, how many statements it takes for it to be what it is. That two terms aren't the same counts twice: it says that one or the other is less.
func (c *coder) costs(t truth) []int {
	costs := make([]int, len(c.nodes))
	for v := 1; v < len(costs); v++ {
		if isStatement(c.nodes[v].kind) {
			costs[v] = 1
		}
		if c.nodes[v].kind == api.FEq && !t.of(v) {
			costs[v] = 2
		}
		for _, l := range c.grounds(v, t, costs) {
			costs[v] = min(costs[v]+costs[unsigned(l)], mostCost)
		}
	}
	return costs
}
