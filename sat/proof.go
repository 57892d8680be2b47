package sat

import (
	"cmp"
	"slices"

	"surety/api"
)

// trace: how the clause of some literals comes of a false one. What is not in it goes by its reason, the latest first, so that nothing that went comes back; what is fixed goes last, by the clause of it alone.
func (s *Solver) trace(clash int, lits []lit) []link {
	for _, l := range lits {
		s.setMark(l.variable(), kept)
	}
	var going, fixed []int
	reach := func(place int) {
		for _, l := range s.clauses[place].lits {
			v := l.variable()
			if s.facts[v].mark != unseen {
				continue
			}
			s.setMark(v, settled)
			if s.facts[v].level == 0 {
				fixed = append(fixed, v)
			} else {
				going = append(going, v)
			}
		}
	}
	reach(clash)
	for i := 0; i < len(going); i++ {
		reach(s.facts[going[i]].reason)
	}
	slices.SortFunc(going, func(a, b int) int { return cmp.Compare(s.facts[b].place, s.facts[a].place) })
	links := make([]link, 0, len(going)+len(fixed))
	for _, v := range going {
		links = append(links, link{clause: int32(s.facts[v].reason), variable: int32(v)})
	}
	return s.unfixed(links, fixed)
}

// unfixed: links, and behind them those by which fixed variables go.
func (s *Solver) unfixed(links []link, fixed []int) []link {
	for _, v := range fixed {
		links = append(links, link{clause: int32(s.facts[v].unit), variable: int32(v)})
	}
	return links
}

// variables: of a clause all but l's.
func (s *Solver) variables(place int, l lit) []int {
	var out []int
	for _, other := range s.clauses[place].lits {
		if other != l {
			out = append(out, other.variable())
		}
	}
	return out
}

// unit: the place of the clause of l alone, where l is true by a clause whose other literals are fixed.
func (s *Solver) unit(l lit, reason int) int {
	fixed := s.variables(reason, l)
	if len(fixed) == 0 {
		return reason
	}
	return s.keep(clause{lits: []lit{l}, number: none, first: reason, links: s.unfixed(nil, fixed)})
}

// refute: by a clause that is false by the fixed literals alone.
func (s *Solver) refute(clash int) {
	s.keep(clause{number: none, first: clash, links: s.unfixed(nil, s.variables(clash, none))})
	s.refuted = true
}

// Proof: how the empty clause is come by, behind a Solve that was Unsat. Added clauses have their numbers; learned ones the numbers behind these.
func (s *Solver) Proof() []api.Chain {
	if !s.refuted {
		return nil
	}
	s.once.Do(func() {
		s.laid = s.layOut()
		s.clauses = nil
	})
	out := make([]api.Chain, len(s.laid))
	for i, c := range s.laid {
		steps := make([]api.Link, len(c.Steps))
		for j, l := range c.Steps {
			steps[j] = api.Link{Clause: s.told(l.Clause), Var: l.Var}
		}
		out[i] = api.Chain{Clause: slices.Clone(c.Clause), First: s.told(c.First), Steps: steps}
	}
	return out
}

// told: a place as Proof tells it. The learned clauses' places are laid out from -1 down, since they hang on how many clauses are added later on.
func (s *Solver) told(place int) int {
	if place < 0 {
		return s.added - 1 - place
	}
	return place
}

// layOut: the chains that lead to the empty clause.
func (s *Solver) layOut() []api.Chain {
	needed := s.needed()
	places := make([]int, len(s.clauses))
	var out []api.Chain
	for i, c := range s.clauses {
		if c.number != none {
			places[i] = c.number
			continue
		}
		if !needed[i] {
			continue
		}
		chain := api.Chain{Clause: outside(c.lits), First: places[c.first]}
		for _, l := range c.links {
			chain.Steps = append(chain.Steps, api.Link{Clause: places[l.clause], Var: int(l.variable)})
		}
		out = append(out, chain)
		places[i] = -len(out)
	}
	return out
}

// needed: by place, whether the last clause comes of it.
func (s *Solver) needed() []bool {
	out := make([]bool, len(s.clauses))
	last := len(out) - 1
	out[last] = true
	for i := last; i >= 0; i-- {
		c := s.clauses[i]
		if !out[i] || c.number != none {
			continue
		}
		out[c.first] = true
		for _, l := range c.links {
			out[l.clause] = true
		}
	}
	return out
}
