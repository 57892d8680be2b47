package theory

import (
	"surety/api"
	"surety/arith"
	"surety/linear"
)

// question is literals of which it is asked whether they hold together.
type question struct {
	lits      []Lit
	table     *table
	sides     []pair // of each literal
	equations []int  // the places of those by which something is the same: their numbers in the web
	web       *web
}

// ask: of all literals, or the first error of one.
func ask(lits []Lit) (*question, api.Errno) {
	q := &question{lits: lits, table: newTable()}
	var equal []pair
	for i, l := range lits {
		two, err := q.sidesOf(l)
		if err != api.OK {
			return nil, err
		}
		q.sides = append(q.sides, two)
		if l.Atom.Kind == api.FEq && !l.Neg {
			q.equations = append(q.equations, i)
			equal = append(equal, two)
		}
	}
	w, err := newWeb(q.table, equal)
	if err != api.OK {
		return nil, err
	}
	q.web = w
	return q, api.OK
}

func (q *question) sidesOf(l Lit) (pair, api.Errno) {
	if err := Sound(l.Atom); err != api.OK {
		return pair{}, err
	}
	if l.Atom.Kind != api.FLe && l.Atom.Kind != api.FEq {
		return pair{}, api.ErrAtom
	}
	return q.table.sides(l.Atom.Args[0], l.Atom.Args[1])
}

// places: of literals, by their equations' numbers.
func (q *question) places(equations []int) []int {
	var list []int
	for _, n := range equations {
		list = append(list, q.equations[n])
	}
	return list
}

// apart: a proof without rows, if there is one.
func (q *question) apart() (Proof, bool) {
	for i, l := range q.lits {
		two := q.sides[i]
		if l.Atom.Kind != api.FEq || !l.Neg || !q.web.isSame(two[0], two[1]) {
			continue
		}
		why := q.places(q.web.why(two[0], two[1]))
		return Proof{Apart: true, Bad: i, Lits: why, A: copied(l.Atom.Args[0]), B: copied(l.Atom.Args[1])}, true
	}
	numbers, ok := q.web.clash()
	if !ok {
		return Proof{}, false
	}
	why, _ := q.web.graph.Explain(numbers[0].node, numbers[1].node)
	a := api.Form{Kind: api.TNum, Name: numbers[0].text}
	b := api.Form{Kind: api.TNum, Name: numbers[1].text}
	return Proof{Apart: true, Bad: -1, Lits: q.places(why), A: a, B: b}, true
}

// copied: a tree as new memory.
func copied(f api.Form) api.Form {
	out := api.Form{Kind: f.Kind, Name: f.Name}
	for _, arg := range f.Args {
		out.Args = append(out.Args, copied(arg))
	}
	return out
}

// sketch is a row, and how it is come by: why twins are the same is asked only where the row is needed.
type sketch struct {
	kind  int
	lits  []int
	twins [2]int // unknowns: of OfSame, the first is at most the second
	row   linear.Row
}

// sketches: all that the literals say as rows.
func (q *question) sketches() ([]sketch, api.Errno) {
	list := collection{where: map[string]int{}}
	most := map[[2]int]int{} // the FLe literals, by the numbers of their sums
	for i, l := range q.lits {
		if l.Atom.Kind == api.FLe && !l.Neg {
			most[[2]int{q.sides[i][0].number, q.sides[i][1].number}] = i
		}
	}
	for i, l := range q.lits {
		if err := q.sketch(&list, i, l, most); err != api.OK {
			return nil, err
		}
	}
	for _, twins := range q.web.twins() {
		for _, two := range [][2]int{twins, {twins[1], twins[0]}} {
			row, err := between(two[0], two[1])
			if err != api.OK {
				return nil, err
			}
			list.add(sketch{kind: OfSame, twins: two, row: row})
		}
	}
	return list.sketches, api.OK
}

// sketch: what one literal says, with those that say that one of two sums is at most the other.
func (q *question) sketch(list *collection, place int, l Lit, most map[[2]int]int) api.Errno {
	two := q.sides[place]
	if l.Atom.Kind == api.FLe {
		return list.draw(OfLess, two, l.Neg, place)
	}
	if !l.Neg {
		if err := list.draw(OfLeft, two, false, place); err != api.OK {
			return err
		}
		return list.draw(OfRight, two, false, place)
	}
	for _, turned := range []pair{two, {two[1], two[0]}} {
		at, ok := most[[2]int{turned[0].number, turned[1].number}]
		if !ok {
			continue
		}
		if err := list.draw(OfApart, q.sides[at], false, at, place); err != api.OK {
			return err
		}
	}
	return api.OK
}

// between: the row that says that one unknown is at most another.
func between(a, b int) (linear.Row, api.Errno) {
	left, err := linear.Var(a)
	if err != api.OK {
		return linear.Row{}, err
	}
	right, err := linear.Var(b)
	if err != api.OK {
		return linear.Row{}, err
	}
	return atMost(sum{term: left}, sum{term: right}, false)
}

// collection is sketches, of rows with one sum only the one that asks most, and none that says nothing: there is room for so many alone.
type collection struct {
	sketches []sketch
	where    map[string]int // by the sums' texts
}

// draw: the row of literals at some places.
func (c *collection) draw(kind int, two pair, neg bool, places ...int) api.Errno {
	row, err := two.row(kind, neg)
	if err != api.OK {
		return err
	}
	c.add(sketch{kind: kind, lits: places, row: row})
	return api.OK
}

func (c *collection) add(s sketch) {
	if s.row.Sum.IsNum() && s.row.Most.Sign() >= 0 {
		return
	}
	text := s.row.Sum.Text()
	at, ok := c.where[text]
	switch {
	case !ok:
		c.where[text] = len(c.sketches)
		c.sketches = append(c.sketches, s)
	case arith.Cmp(s.row.Most, c.sketches[at].row.Most) < 0:
		c.sketches[at] = s
	}
}

// step: of a sketch, as it is told.
func (q *question) step(s sketch) Step {
	if s.kind != OfSame {
		return Step{Kind: s.kind, Lits: s.lits}
	}
	a, b := s.twins[0], s.twins[1]
	why, _ := q.web.graph.Explain(q.web.unknowns[a], q.web.unknowns[b])
	return Step{Kind: OfSame, Lits: q.places(why), A: copied(q.table.unknowns[a].form), B: copied(q.table.unknowns[b].form)}
}
