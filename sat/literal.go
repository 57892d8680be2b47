package sat

import (
	"cmp"
	"slices"

	"surety/api"
)

// lit is a literal within the solver: twice its variable's number, and one more if it is the opposite. So it is a place in a list.
type lit int32

func litOf(l int) lit {
	if l < 0 {
		return lit(-2*l + 1)
	}
	return lit(2 * l)
}

func (l lit) number() int {
	if l&1 != 0 {
		return -l.variable()
	}
	return l.variable()
}

func (l lit) variable() int { return int(l >> 1) }

func (l lit) opposite() lit { return l ^ 1 }

func inside(lits []int) []lit {
	out := make([]lit, len(lits))
	for i, l := range lits {
		out[i] = litOf(l)
	}
	return out
}

// outside: as a set.
func outside(lits []lit) []int {
	out := make([]int, len(lits))
	for i, l := range lits {
		out[i] = l.number()
	}
	slices.SortFunc(out, byVariable)
	return out
}

// within: is each of them a literal of one of so many variables?
func within(lits []int, vars int) bool {
	for _, l := range lits {
		if l == 0 || l < -vars || l > vars {
			return false
		}
	}
	return true
}

// alwaysTrue: has a set a variable and its opposite?
func alwaysTrue(set []int) bool {
	for i := 1; i < len(set); i++ {
		if set[i-1] == -set[i] {
			return true
		}
	}
	return false
}

// byVariable: the order of a set's literals.
func byVariable(a, b int) int {
	return cmp.Or(cmp.Compare(unsigned(a), unsigned(b)), cmp.Compare(a, b))
}

// unsigned: without sign. An int has no room for 0 less the least of them.
func unsigned(l int) uint {
	if l < 0 {
		return -uint(l)
	}
	return uint(l)
}

// Set: literals as a set: rising by their variables, each once.
func Set(lits []int) []int {
	out := slices.Clone(lits)
	slices.SortFunc(out, byVariable)
	return slices.Compact(out)
}

// Resolve: of two clauses, one with a variable and one with its opposite, all other literals, as a set.
func Resolve(a, b []int, v int) ([]int, api.Errno) {
	out, ok := resolved(nil, Set(a), Set(b), v)
	if !ok {
		return nil, api.ErrProof
	}
	return out, api.OK
}

// resolved: two sets on v, behind what out has.
func resolved(out, a, b []int, v int) ([]int, bool) {
	if v < 1 {
		return nil, false
	}
	if has(a, v) && has(b, -v) {
		return merged(out, a, b, v), true
	}
	if has(a, -v) && has(b, v) {
		return merged(out, a, b, -v), true
	}
	return nil, false
}

func has(set []int, l int) bool {
	_, found := slices.BinarySearchFunc(set, l, byVariable)
	return found
}

// merged: of the set a all but l, and of the set b all but its opposite, as one set behind what out has.
func merged(out, a, b []int, l int) []int {
	for len(a) > 0 || len(b) > 0 {
		order := -1
		if len(a) == 0 {
			order = 1
		} else if len(b) > 0 {
			order = byVariable(a[0], b[0])
		}
		var next int
		fromA, fromB := order <= 0, order >= 0
		if fromA {
			next, a = a[0], a[1:]
		}
		if fromB {
			next, b = b[0], b[1:]
		}
		if fromA && next != l || fromB && next != -l {
			out = append(out, next)
		}
	}
	return out
}
