package theory

import (
	"slices"

	"surety/api"
	"surety/lia"
	"surety/linear"
)

// Shows: does a proof show that literals can't hold together? Only the literals that it names are looked at.
func Shows(lits []Lit, p Proof) api.Errno {
	if p.Apart {
		return showsApart(lits, p)
	}
	_, rows, err := drawn(lits, p.Steps)
	if err != api.OK {
		return err
	}
	return lia.Check(rows, p.Tree)
}

// showsApart: what is the same by literals may neither be told apart by another one, nor be two numbers.
func showsApart(lits []Lit, p Proof) api.Errno {
	if err := sameBy(lits, p.Lits, p.A, p.B); err != api.OK {
		return err
	}
	t := newTable()
	two, err := t.sides(p.A, p.B)
	if err != api.OK {
		return err
	}
	if p.Bad < 0 {
		if two[0].term.IsNum() && two[1].term.IsNum() && two[0].number != two[1].number {
			return api.OK
		}
		return api.ErrProof
	}
	bad, err := named(t, lits, p.Bad, api.FEq, true)
	if err != api.OK {
		return err
	}
	if !bad.isSameTwo(two) {
		return api.ErrProof
	}
	return api.OK
}

// sameBy: are two terms the same by the literals at some places, all of them equations?
func sameBy(lits []Lit, places []int, a, b api.Form) api.Errno {
	var equal [][2]api.Form
	for _, place := range places {
		atom, err := literal(lits, place, api.FEq, false)
		if err != api.OK {
			return err
		}
		equal = append(equal, [2]api.Form{atom.Args[0], atom.Args[1]})
	}
	same, err := Alike(equal, a, b)
	if err != api.OK {
		return err
	}
	if !same {
		return api.ErrProof
	}
	return api.OK
}

// literal: the atom at a place, which must be of that kind and sign.
func literal(lits []Lit, place, kind int, neg bool) (api.Form, api.Errno) {
	if place < 0 || place >= len(lits) {
		return api.Form{}, api.ErrProof
	}
	l := lits[place]
	if l.Atom.Kind != kind || l.Neg != neg {
		return api.Form{}, api.ErrProof
	}
	if err := Sound(l.Atom); err != api.OK {
		return api.Form{}, err
	}
	return l.Atom, api.OK
}

// named: the sums of such an atom.
func named(t *table, lits []Lit, place, kind int, neg bool) (pair, api.Errno) {
	atom, err := literal(lits, place, kind, neg)
	if err != api.OK {
		return pair{}, err
	}
	return t.sides(atom.Args[0], atom.Args[1])
}

// drawn: the rows of steps, and the table by which their variables are numbered. That hangs on nothing but what the steps name: so a proof stays one where literals that it doesn't name go.
func drawn(lits []Lit, steps []Step) (*table, []linear.Row, api.Errno) {
	t := newTable()
	var rows []linear.Row
	for _, s := range steps {
		row, err := s.row(t, lits)
		if err != api.OK {
			return nil, nil, err
		}
		rows = append(rows, row)
	}
	return t, rows, api.OK
}

// row: what a step says.
func (s Step) row(t *table, lits []Lit) (linear.Row, api.Errno) {
	switch s.Kind {
	case OfSame:
		if err := sameBy(lits, s.Lits, s.A, s.B); err != api.OK {
			return linear.Row{}, err
		}
		two, err := t.sides(s.A, s.B)
		if err != api.OK {
			return linear.Row{}, err
		}
		return atMost(two[0], two[1], false)
	case OfApart:
		return s.apartRow(t, lits)
	case OfLess, OfLeft, OfRight:
		return s.plainRow(t, lits)
	}
	return linear.Row{}, api.ErrProof
}

// plainRow: of one literal.
func (s Step) plainRow(t *table, lits []Lit) (linear.Row, api.Errno) {
	if len(s.Lits) != 1 || s.Lits[0] < 0 || s.Lits[0] >= len(lits) {
		return linear.Row{}, api.ErrProof
	}
	kind, neg := api.FEq, false
	if s.Kind == OfLess {
		kind, neg = api.FLe, lits[s.Lits[0]].Neg
	}
	two, err := named(t, lits, s.Lits[0], kind, neg)
	if err != api.OK {
		return linear.Row{}, err
	}
	return two.row(s.Kind, neg)
}

// row: what a literal of two sums says, as a step of that kind has it.
func (p pair) row(kind int, neg bool) (linear.Row, api.Errno) {
	if neg || kind == OfRight {
		return atMost(p[1], p[0], neg)
	}
	return atMost(p[0], p[1], kind == OfApart)
}

// apartRow: of two literals.
func (s Step) apartRow(t *table, lits []Lit) (linear.Row, api.Errno) {
	if len(s.Lits) != 2 {
		return linear.Row{}, api.ErrProof
	}
	two, err := named(t, lits, s.Lits[0], api.FLe, false)
	if err != api.OK {
		return linear.Row{}, err
	}
	bad, err := named(t, lits, s.Lits[1], api.FEq, true)
	if err != api.OK {
		return linear.Row{}, err
	}
	if !bad.isSameTwo(two) {
		return linear.Row{}, api.ErrProof
	}
	return two.row(s.Kind, false)
}

// core: the literals that a proof names, rising.
func (p Proof) core() []int {
	list := slices.Clone(p.Lits)
	if p.Apart && p.Bad >= 0 {
		list = append(list, p.Bad)
	}
	for _, s := range p.Steps {
		list = append(list, s.Lits...)
	}
	slices.Sort(list)
	return slices.Compact(list)
}
