package euf

import (
	"slices"

	"surety/api"
)

// account is what is known of why parts are the same, while it is asked for.
type account struct {
	graph     *Graph
	seen      map[[2]int]struct{} // the pairs that were asked for
	waiting   [][2]int            // those that weren't gone after yet
	above     map[int]int         // of a part whose way up was gone already: one above it
	equations []int
}

// Explain: equations by which two nodes are the same, rising.
func (g *Graph) Explain(a, b int) ([]int, api.Errno) {
	same, err := g.Same(a, b)
	if err != api.OK {
		return nil, err
	}
	if !same {
		return nil, api.ErrApart
	}
	e := &account{graph: g, seen: map[[2]int]struct{}{}, above: map[int]int{}}
	e.ask(g.terms.whole[a], g.terms.whole[b])
	for len(e.waiting) > 0 {
		last := len(e.waiting) - 1
		pair := e.waiting[last]
		e.waiting = e.waiting[:last]
		top := e.meeting(pair[0], pair[1])
		e.climb(pair[0], top)
		e.climb(pair[1], top)
	}
	slices.Sort(e.equations)
	return e.equations, api.OK
}

// ask: why two parts are the same, if that wasn't asked before.
func (e *account) ask(a, b int) {
	pair := [2]int{min(a, b), max(a, b)}
	if _, ok := e.seen[pair]; ok || a == b {
		return
	}
	e.seen[pair] = struct{}{}
	e.waiting = append(e.waiting, pair)
}

// top: the first part from at on upwards whose way up wasn't gone yet. Each part that is passed is set higher, so that no way gets long.
func (e *account) top(at int) int {
	for {
		next, gone := e.above[at]
		if !gone {
			return at
		}
		if higher, gone := e.above[next]; gone {
			e.above[at] = higher
		}
		at = next
	}
}

// meeting: the first part that lies above both. They climb by turns, so that none gets far beyond it.
func (e *account) meeting(a, b int) int {
	passed := map[int]struct{}{}
	a, b = e.top(a), e.top(b)
	for {
		if a != none {
			if _, ok := passed[a]; ok {
				return a
			}
			passed[a] = struct{}{}
			a = e.step(a)
		}
		a, b = b, a
	}
}

// step: from a part whose way up wasn't gone to the next such one.
func (e *account) step(at int) int {
	if up := e.graph.spots[at].up; up != none {
		return e.top(up)
	}
	return none
}

// climb: the way from a part to the top, with all that it says.
func (e *account) climb(at, top int) {
	parts := e.graph.terms.parts
	for at = e.top(at); at != top; at = e.top(at) {
		s := e.graph.spots[at]
		if s.why == none {
			e.ask(parts[at].front, parts[s.up].front)
			e.ask(parts[at].arg, parts[s.up].arg)
		} else {
			e.equations = append(e.equations, s.why)
		}
		e.above[at] = s.up
	}
}
