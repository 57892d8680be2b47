package sat_test

import (
	"slices"
	"testing"

	"surety/api"
	"surety/sat"
)

// The tests hold the package against trying all values, and proofs against a checker of their own; they know of it only what its exported calls tell.

// dice is a row of numbers that is always the same.
type dice uint64

func (d *dice) next(below int) int {
	*d = *d*6364136223846793005 + 1442695040888963407
	return int(uint64(*d)>>33) % below
}

// literal: of one of so many variables.
func (d *dice) literal(vars int) int {
	l := 1 + d.next(vars)
	if d.next(2) == 0 {
		return -l
	}
	return l
}

// clause: of so many literals, in any order, some of them perhaps twice or opposites.
func (d *dice) clause(vars, length int) []int {
	var out []int
	for range length {
		out = append(out, d.literal(vars))
	}
	return out
}

func (d *dice) clauses(vars, count, length int) [][]int {
	var out [][]int
	for range count {
		out = append(out, d.clause(vars, length))
	}
	return out
}

// isTrue: is one of a clause's literals at least?
func isTrue(model []bool, clause []int) bool {
	for _, l := range clause {
		if l > 0 && model[l-1] || l < 0 && !model[-l-1] {
			return true
		}
	}
	return false
}

func allTrue(model []bool, clauses [][]int) bool {
	for _, c := range clauses {
		if !isTrue(model, c) {
			return false
		}
	}
	return true
}

// models: of all values those in which all clauses are true.
func models(vars int, clauses [][]int) [][]bool {
	var out [][]bool
	for bits := range 1 << vars {
		model := make([]bool, vars)
		for v := range model {
			model[v] = bits>>v&1 != 0
		}
		if allTrue(model, clauses) {
			out = append(out, model)
		}
	}
	return out
}

// enough: the budget that suffices always.
func enough(vars int) int {
	power := 1
	for range vars {
		power *= 3
	}
	return (power + 1) * (2*vars + 1)
}

func solver(t *testing.T, vars int, clauses ...[]int) *sat.Solver {
	t.Helper()
	s, err := sat.New(vars)
	if s == nil || err != api.OK {
		t.Fatalf("New(%d): error %d", vars, err)
	}
	for i, c := range clauses {
		add(t, s, i, c...)
	}
	return s
}

// add: a clause that must get that number.
func add(t *testing.T, s *sat.Solver, number int, lits ...int) {
	t.Helper()
	if n, err := s.Add(lits...); n != number || err != api.OK {
		t.Fatalf("Add: number %d, error %d; want %d", n, err, number)
	}
}

func grow(t *testing.T, s *sat.Solver, vars int) {
	t.Helper()
	if err := s.Grow(vars); err != api.OK || s.Vars() != vars {
		t.Fatalf("Grow(%d): error %d, %d variables", vars, err, s.Vars())
	}
}

// solve: the verdict, behind which all that the solver tells must fit to it and to its clauses.
func solve(t *testing.T, s *sat.Solver, clauses [][]int, budget int) api.Verdict {
	t.Helper()
	verdict := s.Solve(budget)
	steps := s.Steps()
	if steps < 0 || steps > max(budget, 0) || verdict == api.Unknown && steps != max(budget, 0) {
		t.Fatalf("verdict %d of %v: %d steps with a budget of %d", verdict, clauses, steps, budget)
	}
	model, proof, fixed := s.Model(), s.Proof(), s.Fixed()
	if verdict == api.Sat && (len(model) != s.Vars() || !allTrue(model, clauses)) {
		t.Fatalf("no model of %v: %v", clauses, model)
	}
	if verdict != api.Sat && len(model) != 0 {
		t.Fatalf("verdict %d of %v: the model %v", verdict, clauses, model)
	}
	if verdict == api.Unsat && (!shown(clauses, proof) || sat.Check(clauses, proof) != api.OK) {
		t.Fatalf("no proof for %v: %v", clauses, proof)
	}
	if verdict != api.Unsat && len(proof) != 0 {
		t.Fatalf("verdict %d of %v: the proof %v", verdict, clauses, proof)
	}
	if verdict == api.Unsat && len(fixed) != 0 || !slices.Equal(fixed, sat.Set(fixed)) {
		t.Fatalf("verdict %d of %v: the fixed literals %v", verdict, clauses, fixed)
	}
	return verdict
}

// wantVerdict: as solve, and that one.
func wantVerdict(t *testing.T, s *sat.Solver, clauses [][]int, budget int, want api.Verdict) {
	t.Helper()
	if verdict := solve(t, s, clauses, budget); verdict != want {
		t.Fatalf("verdict %d of %v with a budget of %d; want %d", verdict, clauses, budget, want)
	}
}

// wantRight: as solve; the verdict is what trying all values says, or Unknown with too small a budget, and what is fixed is so in all models.
func wantRight(t *testing.T, s *sat.Solver, clauses [][]int, budget int) api.Verdict {
	t.Helper()
	vars := s.Vars()
	verdict := solve(t, s, clauses, budget)
	all := models(vars, clauses)
	if verdict == api.Unknown && budget >= enough(vars) || verdict == api.Sat && len(all) == 0 || verdict == api.Unsat && len(all) > 0 {
		t.Fatalf("verdict %d of %v with a budget of %d; there are %d models", verdict, clauses, budget, len(all))
	}
	wantFixed(t, s, all)
	return verdict
}

// wantFixed: what is fixed is true in all models.
func wantFixed(t *testing.T, s *sat.Solver, all [][]bool) {
	t.Helper()
	for _, l := range s.Fixed() {
		for _, model := range all {
			if !isTrue(model, []int{l}) {
				t.Fatalf("%d is fixed; there is the model %v", l, model)
			}
		}
	}
}

// pigeons: each is in one of so many holes, which are one too few, and no two in the same. There is no model.
func pigeons(holes int) (int, [][]int) {
	in := func(pigeon, hole int) int { return pigeon*holes + hole + 1 }
	var out [][]int
	for p := range holes + 1 {
		var some []int
		for h := range holes {
			some = append(some, in(p, h))
			for q := range p {
				out = append(out, []int{-in(p, h), -in(q, h)})
			}
		}
		out = append(out, some)
	}
	return (holes + 1) * holes, out
}

// bag is a clause as the tests' own checker has it.
type bag map[int]struct{}

func bagOf(lits []int) bag {
	out := bag{}
	for _, l := range lits {
		out[l] = struct{}{}
	}
	return out
}

func (b bag) has(l int) bool {
	_, ok := b[l]
	return ok
}

func (b bag) without(l int) bag {
	out := bag{}
	for k := range b {
		if k != l {
			out[k] = struct{}{}
		}
	}
	return out
}

func (b bag) with(o bag) bag {
	for k := range o {
		b[k] = struct{}{}
	}
	return b
}

func (b bag) same(o bag) bool {
	for k := range b {
		if !o.has(k) {
			return false
		}
	}
	return len(b) == len(o)
}

// resolvedBag: by the words of the document.
func resolvedBag(a, b bag, v int) (bag, bool) {
	if v >= 1 && a.has(v) && b.has(-v) {
		return a.without(v).with(b.without(-v)), true
	}
	if v >= 1 && a.has(-v) && b.has(v) {
		return a.without(-v).with(b.without(v)), true
	}
	return nil, false
}

// shown: do chains lead to the empty clause?
func shown(clauses [][]int, proof []api.Chain) bool {
	var places []bag
	for _, c := range clauses {
		places = append(places, bagOf(c))
	}
	for _, chain := range proof {
		if chain.First < 0 || chain.First >= len(places) {
			return false
		}
		now := places[chain.First]
		for _, step := range chain.Steps {
			if step.Clause < 0 || step.Clause >= len(places) {
				return false
			}
			var ok bool
			if now, ok = resolvedBag(now, places[step.Clause], step.Var); !ok {
				return false
			}
		}
		if !now.same(bagOf(chain.Clause)) {
			return false
		}
		places = append(places, now)
	}
	return len(proof) > 0 && len(proof[len(proof)-1].Clause) == 0
}
