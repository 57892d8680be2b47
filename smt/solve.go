package smt

import (
	"slices"

	"surety/api"
	"surety/sat"
	"surety/theory"
)

// search decides a formula: layer 4 tells how its atoms may be, layer 8 whether statements can be so together; if not, there is a lemma more. A step is one of theirs.
type search struct {
	*coder // behind the formula's variables stand those of further atoms
	form   api.Form
	own    int // how many variables are the formula's
	solver *sat.Solver
	asked  []int // the variables of atoms that splits have asked for
	lemmas []Lemma
	doubt  bool // has something been left out of which it isn't known whether it can be?
	full   bool // is there no room for a clause more?
	budget int
	steps  int
}

// Solve: has a formula a model? Within so many steps.
func Solve(f api.Form, budget int) (Answer, api.Errno) {
	c, err := code(f)
	if err != api.OK {
		return Answer{}, err
	}
	s := &search{coder: c, form: f, own: c.vars(), budget: budget}
	s.solver, _ = sat.New(s.own)
	for _, lits := range c.clauses {
		s.add(lits)
	}
	a := s.answer()
	a.Steps = s.steps
	return a, api.OK
}

// answer: without its steps.
func (s *search) answer() Answer {
	s.lookAtFixed()
	for !s.full {
		switch s.choose(s.left()) {
		case api.Unsat:
			return s.refuted()
		case api.Unknown:
			return Answer{}
		}
		m, ok := s.settle(s.solver.Model())
		if ok {
			return Answer{Verdict: api.Sat, Model: m}
		}
	}
	return Answer{}
}

// left: of the budget.
func (s *search) left() int { return max(s.budget-s.steps, 0) }

// choose: how variables may be, by the clauses alone.
func (s *search) choose(budget int) api.Verdict {
	verdict := s.solver.Solve(budget)
	s.steps += s.solver.Steps()
	return verdict
}

// add: a clause.
func (s *search) add(lits []int) {
	if _, err := s.solver.Add(lits...); err != api.OK {
		s.full = true
	}
}

// lookAtFixed: at what must be so whatever is chosen, while more comes of it. If that can't be, nothing needs to be chosen. The one step is for clauses that can't all hold then.
func (s *search) lookAtFixed() {
	for known := -1; s.choose(min(s.left(), 1)) == api.Unknown; {
		fixed := s.solver.Fixed()
		if len(fixed)+len(s.asked) == known {
			return
		}
		known = len(fixed) + len(s.asked)
		lits := s.withAsked(fixed, nil)
		a, stated := s.ask(lits)
		if a.Verdict == api.Unsat {
			s.learn(stated, a)
		} else if !s.split(a, lits) {
			return
		}
	}
}

// refuted: Unsat; but Unknown, if that hangs on what was left out, or takes too many chains.
func (s *search) refuted() Answer {
	chains := s.solver.Proof()
	if s.doubt || len(chains) > api.MaxClauses {
		return Answer{}
	}
	cert := Cert{Lemmas: s.lemmas, Chains: chains}
	for _, n := range s.nodes[s.own+1:] {
		cert.Atoms = append(cert.Atoms, n.atom)
	}
	return Answer{Verdict: api.Unsat, Cert: cert}
}

// settle: a model in which atoms are so, as far as the formula needs it; else there is a clause more, by which they aren't.
func (s *search) settle(t truth) (api.Model, bool) {
	for {
		lits := s.withAsked(s.enough(t), t)
		a, stated := s.ask(lits)
		if a.Verdict == api.Unsat {
			s.learn(stated, a)
			return api.Model{}, false
		}
		if a.Verdict == api.Sat {
			m := s.model(a.Model, t)
			if is, err := theory.True(s.form, m); err == api.OK && is {
				return m, true
			}
		} else if s.split(a, lits) {
			continue
		}
		s.doubt = true
		s.add(opposites(lits))
		return api.Model{}, false
	}
}

// model: of terms' values, and of what the Boolean variables are.
func (s *search) model(m api.Model, t truth) api.Model {
	for v, n := range s.nodes {
		if n.kind != api.FBool {
			continue
		}
		num := "0"
		if t.of(v) {
			num = "1"
		}
		m.Bools = append(m.Bools, api.Value{Name: n.atom.Name, Num: num})
	}
	return m
}

// withAsked: literals, and what the atoms are that splits have asked for.
func (s *search) withAsked(lits []int, t truth) []int {
	list := slices.Clone(lits)
	for _, v := range s.asked {
		if !hasVariable(lits, v) {
			list = append(list, t.literal(v))
		}
	}
	return sat.Set(list)
}

func hasVariable(lits []int, v int) bool {
	return slices.Contains(lits, v) || slices.Contains(lits, -v)
}
