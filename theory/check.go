package theory

import (
	"slices"

	"surety/api"
	"surety/arith"
	"surety/lia"
	"surety/linear"
)

// search seeks values at which literals hold, or a tree that shows that there are none. A step is one of lia's, or a guess.
type search struct {
	question *question
	sketches []sketch
	rows     []linear.Row // of the sketches, and behind them what was guessed
	budget   int
	steps    int
}

// Check: do literals hold together? Within so many steps.
func Check(lits []Lit, budget int) (Answer, api.Errno) {
	if len(lits) > api.MaxRows {
		return Answer{}, api.ErrLong
	}
	q, err := ask(lits)
	if err != api.OK {
		return Answer{}, err
	}
	if p, ok := q.apart(); ok {
		return q.refuted(p, 0), api.OK
	}
	sketches, err := q.sketches()
	if err != api.OK {
		return Answer{}, err
	}
	s := &search{question: q, sketches: sketches, budget: budget}
	for _, k := range sketches {
		s.rows = append(s.rows, k.row)
	}
	return s.answer()
}

// refuted: Unsat, by a proof; but Unknown, if that doesn't show it.
func (q *question) refuted(p Proof, steps int) Answer {
	if Shows(q.lits, p) != api.OK {
		return Answer{Steps: steps}
	}
	return Answer{Verdict: api.Unsat, Core: p.core(), Proof: p, Steps: steps}
}

// answer: by the rows alone first; where their values are no model, what keeps them from it is done away with by guesses, one by one.
func (s *search) answer() (Answer, api.Errno) {
	found, err := s.solve()
	if err != api.OK {
		return Answer{}, err
	}
	switch found.Verdict {
	case api.Unsat:
		return s.question.refuted(s.proof(found.Cert), s.steps), api.OK
	case api.Unknown:
		return Answer{Steps: s.steps}, api.OK
	}
	values := found.Values
	for {
		d, err := s.question.draft(values)
		if err != api.OK {
			// What a sum comes to is too large: other values might do, but no others are sought.
			return Answer{Steps: s.steps}, api.OK
		}
		if d.quarrels == 0 {
			return s.fulfilled(d.model), api.OK
		}
		better, ok := s.guess(d.guesses())
		if !ok {
			return Answer{Split: offered(d.atom), Steps: s.steps}, api.OK
		}
		values = better
	}
}

// solve: all rows, and some more, within what is left of the budget.
func (s *search) solve(more ...linear.Row) (lia.Answer, api.Errno) {
	found, err := lia.Solve(slices.Concat(s.rows, more), s.budget-s.steps)
	s.steps += found.Steps
	return found, err
}

// guess: values with the rows of one of several ways more, which stay then.
func (s *search) guess(ways [][]linear.Row) ([]arith.Int, bool) {
	for _, rows := range ways {
		if s.steps >= s.budget {
			return nil, false
		}
		s.steps++
		found, err := s.solve(rows...)
		if err == api.OK && found.Verdict == api.Sat {
			s.rows = append(s.rows, rows...)
			return found.Values, true
		}
	}
	return nil, false
}

// fulfilled: Sat, by a model; but Unknown, if the literals don't hold in it: on the way to a sum a number may be too large.
func (s *search) fulfilled(m api.Model) Answer {
	r := read(m)
	for _, l := range s.question.lits {
		is, err := r.truth(l.Atom)
		if err != api.OK || is == l.Neg {
			return Answer{Steps: s.steps}
		}
	}
	return Answer{Verdict: api.Sat, Model: m, Steps: s.steps}
}

// offered: an atom to be decided first, if it is one: terms of two literals may be too much for one.
func offered(atom api.Form) []api.Form {
	if Sound(atom) != api.OK {
		return nil
	}
	return []api.Form{copied(atom)}
}

// proof: by a tree for the rows of the sketches, of those alone that it takes factors of.
func (s *search) proof(cert api.Branch) Proof {
	q := s.question
	m := move{before: len(s.sketches), rows: map[int]int{}}
	var p Proof
	for i, place := range lia.Uses(cert, len(s.sketches)) {
		m.rows[place] = i
		p.Steps = append(p.Steps, q.step(s.sketches[place]))
	}
	t, rows, err := drawn(q.lits, p.Steps)
	if err != api.OK {
		return Proof{}
	}
	m.from, m.to = q.table, t
	p.Tree = m.tree(cert)
	p.weaken(rows)
	return p
}

// tries: of so many rows it is asked at most whether they need to say that much.
const tries = 100

// weaken: of rows with one sum there is only the one that asks most, so one may say less where at most would do: then the literal by which it does so isn't named.
func (p *Proof) weaken(rows []linear.Row) {
	left := tries
	for i, s := range p.Steps {
		if s.Kind != OfApart || left == 0 {
			continue
		}
		left--
		strict := rows[i].Most
		more, err := arith.Add(strict, arith.From(1))
		if err != api.OK {
			continue
		}
		rows[i].Most = more
		if lia.Check(rows, p.Tree) == api.OK {
			p.Steps[i] = Step{Kind: OfLess, Lits: s.Lits[:1:1]}
		} else {
			rows[i].Most = strict
		}
	}
}
