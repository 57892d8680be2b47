package euf

// spot is where a part stands among the others.
type spot struct {
	class int // the part that stands for its class
	next  int // the next part of its class, in a ring
	up    int // a part that it is the same as at once; none at the top of its class's tree
	why   int // the equation by which it is that, or none, if what the two are made of is the same

	// of a part that stands for its class:
	size  int
	least int   // its least node
	uses  []int // the parts that are made of one of its parts
}

// claim says that two parts are the same, by an equation, or, if that is none, by what they are made of.
type claim struct {
	a, b int
	why  int
}

func (g *Graph) classOf(node int) int { return g.spots[g.terms.whole[node]].class }

// settle: the classes get to know of all parts and all equations. These come to them in the order in which they were made, so that nobody can tell by Explain when that was done: a call that is refused may have done it.
func (g *Graph) settle() {
	for ; g.merged < len(g.equations); g.merged++ {
		e := g.equations[g.merged]
		g.placeTo(e.parts)
		g.claims = append(g.claims, claim{a: g.terms.whole[e.a], b: g.terms.whole[e.b], why: g.merged})
		g.join()
	}
	g.placeTo(len(g.terms.parts))
}

// placeTo: so many parts, the first ones, come to the classes, if they aren't there.
func (g *Graph) placeTo(count int) {
	for len(g.spots) < count {
		g.place(len(g.spots))
		g.join()
	}
}

// forget: the classes know of nothing.
func (g *Graph) forget() {
	g.merged = 0
	g.spots = g.spots[:0]
	clear(g.signatures)
}

// place: a part comes to the classes.
func (g *Graph) place(at int) {
	p := g.terms.parts[at]
	g.spots = append(g.spots, spot{class: at, next: at, up: none, why: none, size: 1, least: p.node})
	if p.front == none {
		return
	}
	for _, made := range []int{p.front, p.arg} {
		class := &g.spots[g.spots[made].class]
		class.uses = append(class.uses, at)
	}
	g.enrol(at)
}

// signature: the classes of which a part is made.
func (g *Graph) signature(at int) [2]int {
	p := g.terms.parts[at]
	return [2]int{g.spots[p.front].class, g.spots[p.arg].class}
}

// enrol: a part under its signature, or it is the same as the one that stands there.
func (g *Graph) enrol(at int) {
	s := g.signature(at)
	if first, ok := g.signatures[s]; ok {
		g.claims = append(g.claims, claim{a: at, b: first, why: none})
		return
	}
	g.signatures[s] = at
}

// join: till no claim is left.
func (g *Graph) join() {
	for len(g.claims) > 0 {
		last := len(g.claims) - 1
		c := g.claims[last]
		g.claims = g.claims[:last]
		if g.spots[c.a].class != g.spots[c.b].class {
			g.merge(c)
		}
	}
}

// weight: what a class costs to go over to another one.
func (g *Graph) weight(class int) int { return g.spots[class].size + len(g.spots[class].uses) }

// merge: of two classes the lighter one goes over to the other, so that no part does so often. Signatures that name it go, since nobody will ask for them.
func (g *Graph) merge(c claim) {
	from, to := g.spots[c.a].class, g.spots[c.b].class
	if g.weight(from) > g.weight(to) {
		from, to = to, from
		c.a, c.b = c.b, c.a
	}
	g.hang(c)
	uses := g.spots[from].uses
	for _, at := range uses {
		delete(g.signatures, g.signature(at))
	}
	g.rename(from, to)
	for _, at := range uses {
		g.enrol(at)
	}
	g.spots[to].uses = append(g.spots[to].uses, uses...)
	g.spots[from].uses = nil
}

// rename: the parts of one class are of another one.
func (g *Graph) rename(from, to int) {
	at := from
	for range g.spots[from].size {
		g.spots[at].class = to
		at = g.spots[at].next
	}
	a, b := &g.spots[from], &g.spots[to]
	a.next, b.next = b.next, a.next
	b.size += a.size
	b.least = min(a.least, b.least)
}

// hang: a's tree below b; the way from a to its old top is turned round.
func (g *Graph) hang(c claim) {
	at, up, why := c.a, c.b, c.why
	for at != none {
		s := &g.spots[at]
		next, reason := s.up, s.why
		s.up, s.why = up, why
		at, up, why = next, at, reason
	}
}
