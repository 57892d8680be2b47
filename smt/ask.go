package smt

import (
	"slices"

	"surety/api"
	"surety/theory"
)

// ask: do those of some literals hold together that are statements? They are told too, without those that layer 8 refuses: these can't be why others don't hold.
func (s *search) ask(lits []int) (theory.Answer, []int) {
	stated := slices.DeleteFunc(slices.Clone(lits), func(l int) bool { return !isStatement(s.nodes[unsigned(l)].kind) })
	a, err := theory.Check(s.said(stated), s.left())
	if err != api.OK {
		stated = slices.DeleteFunc(stated, s.isRefused)
		a, _ = theory.Check(s.said(stated), s.left())
	}
	s.steps += a.Steps
	return a, stated
}

// isRefused: by layer 8, all alone?
func (s *search) isRefused(l int) bool {
	_, err := theory.Check(s.said([]int{l}), 0)
	return err != api.OK
}

// said: statements as layer 8 has them.
func (s *search) said(lits []int) []theory.Lit {
	var list []theory.Lit
	for _, l := range lits {
		list = append(list, theory.Lit{Atom: s.nodes[unsigned(l)].atom, Neg: l < 0})
	}
	return list
}

// learn: that not all of the statements hold, by an answer that is Unsat.
func (s *search) learn(stated []int, a theory.Answer) {
	lemma := Lemma{Proof: placed(a.Proof, a.Core)}
	for _, place := range a.Core {
		lemma.Clause = append(lemma.Clause, -stated[place])
	}
	s.lemmas = append(s.lemmas, lemma)
	s.add(lemma.Clause)
}

// placed: a proof for the literals at some places, by their places among these alone.
func placed(p theory.Proof, core []int) theory.Proof {
	p.Lits = placesIn(core, p.Lits)
	if p.Apart && p.Bad >= 0 {
		p.Bad, _ = slices.BinarySearch(core, p.Bad)
	}
	for i, step := range p.Steps {
		p.Steps[i].Lits = placesIn(core, step.Lits)
	}
	return p
}

// placesIn: where numbers stand in a rising list.
func placesIn(list, numbers []int) []int {
	var out []int
	for _, n := range numbers {
		at, _ := slices.BinarySearch(list, n)
		out = append(out, at)
	}
	return out
}

// split: does an answer ask for an atom that can be decided first? Once the budget is used up, answers may ask for one after the other.
func (s *search) split(a theory.Answer, lits []int) bool {
	if len(a.Split) == 0 || a.Steps == 0 && s.left() == 0 {
		return false
	}
	atom := a.Split[0]
	if !s.demand(atom, lits) {
		return false
	}
	if atom.Kind == api.FEq { // where two terms aren't the same, one or the other is less: which of them is decided at once
		order := copied(atom)
		order.Kind = api.FLe
		s.demand(order, lits)
	}
	return true
}

// demand: an atom is asked for from now on; false, if the literals have it already, or there is no room for it.
func (s *search) demand(atom api.Form, lits []int) bool {
	key := Key(atom)
	v, ok := s.places[key]
	if ok && hasVariable(lits, v) || !ok && s.solver.Grow(s.vars()+1) != api.OK {
		return false
	}
	s.asked = append(s.asked, s.variable(key, node{kind: atom.Kind, atom: atom}))
	return true
}
