package sat

import (
	"math/bits"

	"surety/api"
)

// The values of a literal.
const (
	open    int8 = 0
	isTrue  int8 = 1
	isFalse int8 = -1
)

// patience: how many clauses found false the shortest round of a search has.
const patience = 64

// Luby: the n-th of 1, 1, 2, 1, 1, 2, 4, ..; 0 of n below 1.
func Luby(n int) int {
	if n < 1 {
		return 0
	}
	for {
		length := bits.Len(uint(n))
		if uint(n)+1 == 1<<length {
			return 1 << (length - 1)
		}
		n -= 1<<(length-1) - 1
	}
}

// Solve: within so many steps.
func (s *Solver) Solve(budget int) api.Verdict {
	s.model = nil
	s.steps.Store(0)
	if s.refuted {
		return api.Unsat
	}
	for _, place := range s.waiting {
		s.attach(place)
	}
	s.waiting = nil
	verdict := s.search(budget)
	s.undo(0)
	return verdict
}

// search: from the fixed literals on. It learns from each clause found false one that it never had, so it comes to an end.
func (s *Solver) search(budget int) api.Verdict {
	round, left := 1, patience
	for {
		if clash := s.follow(); clash != none {
			if !s.step(budget) {
				return api.Unknown
			}
			if len(s.starts) == 0 {
				s.refute(clash)
				return api.Unsat
			}
			s.learn(clash)
			if left--; left == 0 {
				round++
				left = patience * Luby(round)
				s.undo(0)
			}
			continue
		}
		v := s.next()
		if v == none {
			s.model = s.values()
			return api.Sat
		}
		if !s.step(budget) {
			return api.Unknown
		}
		s.choose(v)
	}
}

// step: one more, if the budget has it.
func (s *Solver) step(budget int) bool {
	if s.steps.Load() >= int64(budget) {
		return false
	}
	s.steps.Add(1)
	return true
}

// next: the variable to be chosen, or none if each one that clauses have has a value.
func (s *Solver) next() int {
	for len(s.order.heap) > 0 {
		v := s.order.heap[0]
		if s.value[litOf(v)] == open {
			return v
		}
		s.order.pop()
	}
	return none
}

// choose: the value that v had last, since much of what hung on it may still hold.
func (s *Solver) choose(v int) {
	l := litOf(v)
	if !s.facts[v].last {
		l = l.opposite()
	}
	s.starts = append(s.starts, len(s.trail))
	s.assign(l, none)
}

// values: what each variable is.
func (s *Solver) values() []bool {
	out := make([]bool, s.vars)
	for _, l := range s.trail {
		out[l.variable()-1] = l.number() > 0
	}
	return out
}

// assign: l is true, by a clause or by choice.
func (s *Solver) assign(l lit, reason int) {
	s.value[l] = isTrue
	s.value[l.opposite()] = isFalse
	f := &s.facts[l.variable()]
	f.level = len(s.starts)
	f.place = len(s.trail)
	f.reason = reason
	s.trail = append(s.trail, l)
	if f.level == 0 {
		f.unit = s.unit(l, reason)
	}
}

// undo: all that came behind a level.
func (s *Solver) undo(level int) {
	if level >= len(s.starts) {
		return
	}
	start := s.starts[level]
	for _, l := range s.trail[start:] {
		s.value[l] = open
		s.value[l.opposite()] = open
		s.facts[l.variable()].last = l.number() > 0
		s.order.push(l.variable())
	}
	s.trail = s.trail[:start]
	s.starts = s.starts[:level]
	s.head = start
}

// attach: a clause that was added, while nothing is chosen. If it isn't watched, then the fixed literals make it true or false for good.
func (s *Solver) attach(place int) {
	lits := s.clauses[place].lits
	live := 0
	for i, l := range lits {
		if s.value[l] == open {
			s.order.push(l.variable())
		}
		if s.value[l] != isFalse {
			lits[live], lits[i] = lits[i], lits[live]
			live++
		}
	}
	if live > 1 {
		s.watch(place)
	} else if live == 0 {
		s.clash = place
	} else if s.value[lits[0]] == open {
		s.assign(lits[0], place)
	}
}

// watch: a clause's first two literals.
func (s *Solver) watch(place int) {
	lits := s.clauses[place].lits
	for i := range 2 {
		s.watches[lits[i]] = append(s.watches[lits[i]], watch{clause: int32(place), other: lits[1-i]})
	}
}

// follow: up all true literals; a clause that is false, or none.
func (s *Solver) follow() int {
	for s.clash == none && s.head < len(s.trail) {
		l := s.trail[s.head]
		s.head++
		clash := s.visit(l.opposite())
		if clash != none && len(s.starts) == 0 {
			s.clash = clash
		} else if clash != none {
			return clash
		}
	}
	return s.clash
}

// visit: the clauses that watch a literal which has become false; one that is false, or none.
func (s *Solver) visit(gone lit) int {
	list := s.watches[gone]
	kept := 0
	clash := none
	for i, w := range list {
		if s.value[w.other] == isTrue {
			list[kept] = w
			kept++
			continue
		}
		if s.moved(int(w.clause), gone) {
			continue
		}
		first := s.clauses[w.clause].lits[0]
		list[kept] = watch{clause: w.clause, other: first}
		kept++
		if s.value[first] == open {
			s.assign(first, int(w.clause))
		} else if s.value[first] == isFalse {
			clash = int(w.clause)
			kept += copy(list[kept:], list[i+1:])
			break
		}
	}
	s.watches[gone] = list[:kept]
	return clash
}

// moved: does a clause now watch another literal than the one that has become false? If not, that one is at the place 1.
func (s *Solver) moved(place int, gone lit) bool {
	lits := s.clauses[place].lits
	if lits[0] == gone {
		lits[0], lits[1] = lits[1], gone
	}
	if s.value[lits[0]] == isTrue {
		return false
	}
	for i := 2; i < len(lits); i++ {
		if l := lits[i]; s.value[l] != isFalse {
			lits[1], lits[i] = l, gone
			s.watches[l] = append(s.watches[l], watch{clause: int32(place), other: lits[0]})
			return true
		}
	}
	return false
}
