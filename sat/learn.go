package sat

// mark: what a variable is in the clause that is learned.
type mark int8

const (
	unseen  mark = iota
	kept         // its literal is in the clause, or was
	settled      // it has its value by those that are kept
	loose        // it hasn't
)

// learn: from a clause that is false, one of which just one literal, without the latest levels, isn't false.
func (s *Solver) learn(clash int) {
	lits := s.blame(clash)
	lits = s.shorten(lits)
	s.unmark()
	links := s.trace(clash, lits)
	s.unmark()
	place := s.keep(clause{lits: lits, number: none, first: clash, links: links})
	s.order.age()
	if len(lits) == 1 {
		s.undo(0)
	} else {
		s.latestSecond(lits)
		s.undo(s.facts[lits[1].variable()].level)
		s.watch(place)
	}
	s.assign(lits[0], place)
}

// setMark: of a variable that has none yet.
func (s *Solver) setMark(v int, m mark) {
	s.facts[v].mark = m
	s.marked = append(s.marked, v)
}

// unmark: all variables.
func (s *Solver) unmark() {
	for _, v := range s.marked {
		s.facts[v].mark = unseen
	}
	s.marked = s.marked[:0]
}

// blame: a clause that follows from a false one and the reasons of its literals: the latest literal through which all goes that the latest choice brought about, and literals of earlier levels.
func (s *Solver) blame(clash int) []lit {
	out := []lit{0}
	level := len(s.starts)
	left := 0
	at := len(s.trail)
	for from := clash; ; {
		for _, l := range s.clauses[from].lits {
			f := &s.facts[l.variable()]
			if f.mark != unseen || f.level == 0 {
				continue
			}
			s.setMark(l.variable(), kept)
			s.order.bump(l.variable())
			if f.level == level {
				left++
			} else {
				out = append(out, l)
			}
		}
		at--
		for s.facts[s.trail[at].variable()].mark == unseen {
			at--
		}
		if left--; left == 0 {
			out[0] = s.trail[at].opposite()
			return out
		}
		f := &s.facts[s.trail[at].variable()]
		f.mark = settled
		from = f.reason
	}
}

// shorten: without the literals that are false by the others.
func (s *Solver) shorten(lits []lit) []lit {
	out := lits[:1]
	for _, l := range lits[1:] {
		if !s.follows(l.variable()) {
			out = append(out, l)
		}
	}
	return out
}

// follows: has v its value by the kept ones alone?
func (s *Solver) follows(v int) bool {
	reason := s.facts[v].reason
	if reason == none {
		return false
	}
	for _, l := range s.clauses[reason].lits {
		if l.variable() != v && s.isLoose(l.variable()) {
			return false
		}
	}
	return true
}

// isLoose: is v neither fixed nor kept, nor has its value by those alone?
func (s *Solver) isLoose(v int) bool {
	f := &s.facts[v]
	if f.level == 0 {
		return false
	}
	if f.mark == unseen {
		m := loose
		if s.follows(v) {
			m = settled
		}
		s.setMark(v, m)
	}
	return f.mark == loose
}

// latestSecond: of the literals but the first the one of the latest level at the place 1: it is the first of them to be no more false when levels are undone.
func (s *Solver) latestSecond(lits []lit) {
	for i := 2; i < len(lits); i++ {
		if s.facts[lits[i].variable()].level > s.facts[lits[1].variable()].level {
			lits[1], lits[i] = lits[i], lits[1]
		}
	}
}
