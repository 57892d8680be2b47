package lia

import (
	"maps"

	"surety/api"
	"surety/arith"
	"surety/simplex"
)

// patience: when so many kids of a group stay open, it is given up. Behind the first of them there may still be values elsewhere; but where nothing bounds the variables, each may lie as deep as may be.
const patience = 10

// search goes through splits, each kid by itself: rational values are sought, and where one of them isn't whole, it is split there.
type search struct {
	budget int
	steps  int
	places int  // how many rows were given: those of splits are behind them
	open   int  // how many kids stay open
	over   bool // is nothing more of the group to be looked at?
}

// finding is what was found of rows; the zero finding says nothing.
type finding struct {
	verdict api.Verdict
	values  map[int]arith.Int // of Sat: by variable
	cert    api.Branch        // of Unsat
}

// task is rows that are to be split.
type task struct {
	rows []held
	at   split
}

// solve: all groups; the values count of Sat alone. None is split till each was looked at: one that rational numbers don't fulfil is shown at once.
func (s *search) solve(groups [][]held) finding {
	total := finding{verdict: api.Sat, values: map[int]arith.Int{}}
	var tasks []task
	for _, rows := range groups {
		found, at, ok := s.look(rows)
		if ok {
			tasks = append(tasks, task{rows: rows, at: at})
			continue
		}
		if found.verdict == api.Unsat {
			return found
		}
		total.add(found)
	}
	for _, t := range tasks {
		s.open, s.over = 0, false
		found := s.divide(t.rows, 0, t.at)
		if found.verdict == api.Unsat {
			return found
		}
		total.add(found)
	}
	return total
}

// add: what was found of one group more, which isn't Unsat.
func (f *finding) add(more finding) {
	if more.verdict != api.Sat {
		f.verdict = api.Unknown
	}
	maps.Copy(f.values, more.values)
}

// look: at rows, without a split; or a split that they need, and true.
func (s *search) look(rows []held) (finding, split, bool) {
	system, err := systemOf(rows)
	if err != api.OK {
		return s.leaveOpen(), split{}, false
	}
	verdict := system.Solve(s.budget - s.steps)
	s.steps += system.Steps()
	switch verdict {
	case api.Unsat:
		return finding{verdict: api.Unsat, cert: leaf(rows, system.Parts())}, split{}, false
	case api.Sat:
		at, ok := fraction(system)
		if ok {
			return finding{}, at, true
		}
		return fulfilled(system), split{}, false
	}
	if s.isSpent() {
		return s.stop(), split{}, false
	}
	return s.leaveOpen(), split{}, false
}

// fulfilled: Sat, by values that are all whole.
func fulfilled(system *simplex.System) finding {
	values := map[int]arith.Int{}
	for _, v := range system.Vars() {
		values[v] = system.Value(v).Num()
	}
	return finding{verdict: api.Sat, values: values}
}

// isSpent: is the budget used up?
func (s *search) isSpent() bool { return s.steps >= s.budget }

// stop: nothing more is looked at, so that what is found within fewer steps is found within more of them too.
func (s *search) stop() finding {
	s.over = true
	return finding{}
}

// leaveOpen: a kid of which nothing can be told; others may still tell.
func (s *search) leaveOpen() finding {
	s.open++
	s.over = s.open >= patience
	return finding{}
}

// divide: rows that are held in so many splits, split once more.
func (s *search) divide(rows []held, depth int, at split) finding {
	sides, err := at.sides()
	if err != api.OK || depth == api.MaxForm {
		return s.leaveOpen()
	}
	if s.isSpent() {
		return s.stop()
	}
	s.steps++
	place := s.places + depth
	var kids [2]finding
	for _, side := range at.order() {
		if s.over {
			return finding{}
		}
		kid := s.explore(with(rows, held{place: place, row: sides[side]}), depth+1)
		if kid.verdict == api.Sat {
			return kid
		}
		if kid.verdict == api.Unsat && !takes(kid.cert, place) {
			// What shows it there without the split shows it here: the other kid need not be looked at.
			forget(kid.cert, place)
			return kid
		}
		kids[side] = kid
	}
	return at.joined(kids)
}

// explore: the rows that are held in so many splits.
func (s *search) explore(rows []held, depth int) finding {
	found, at, ok := s.look(rows)
	if ok {
		return s.divide(rows, depth, at)
	}
	return found
}
