package sat_test

import (
	"slices"
	"testing"

	"surety/api"
	"surety/sat"
)

// P4.3: none ahead of Solve that isn't so, none once it was Unsat, whatever comes then.
func TestFixed(t *testing.T) {
	s := solver(t, 5, []int{4}, []int{-4, -2}, []int{2, 5, 3}, []int{-3})
	clauses := [][]int{{4}, {-4, -2}, {2, 5, 3}, {-3}}
	all := models(5, clauses)
	wantFixed(t, s, all)
	wantVerdict(t, s, clauses, 100, api.Sat)
	wantFixed(t, s, all)
	if got := s.Fixed(); !slices.Equal(got, []int{-2, -3, 4, 5}) {
		t.Errorf("Fixed: %v", got)
	}
	add(t, s, 4, -1, -5)
	grow(t, s, 6)
	wantFixed(t, s, models(6, append(clauses, []int{-1, -5})))
	add(t, s, 5, 1, -4)
	clauses = append(clauses, []int{-1, -5}, []int{1, -4})
	wantVerdict(t, s, clauses, 100, api.Unsat)
	for range 2 {
		if got := s.Fixed(); len(got) != 0 {
			t.Errorf("Fixed behind Unsat: %v", got)
		}
		add(t, s, len(clauses), 6)
		clauses = append(clauses, []int{6})
		if got := s.Fixed(); len(got) != 0 {
			t.Errorf("Fixed behind Unsat and a clause more: %v", got)
		}
		wantVerdict(t, s, clauses, 0, api.Unsat)
	}
}

// P4.3: none ahead of Unsat; behind it each time the same, whatever is done to what was answered, and for all clauses that were added since.
func TestProof(t *testing.T) {
	vars, clauses := pigeons(4)
	s := solver(t, vars, clauses...)
	if len(s.Proof()) != 0 {
		t.Error("a proof ahead of Solve")
	}
	wantVerdict(t, s, clauses, 3, api.Unknown)
	if len(s.Proof()) != 0 {
		t.Error("a proof behind Unknown")
	}
	wantVerdict(t, s, clauses, 1000000, api.Unsat)
	for i := range 5 {
		for _, chain := range s.Proof() {
			clear(chain.Clause)
			clear(chain.Steps)
		}
		if proof := s.Proof(); !shown(clauses, proof) || sat.Check(clauses, proof) != api.OK {
			t.Fatalf("behind %d clauses more: no proof", i)
		}
		more := []int{1 + i, -vars - i}
		grow(t, s, vars+i)
		add(t, s, len(clauses), more...)
		clauses = append(clauses, more)
	}
	wantVerdict(t, s, clauses, 1000000, api.Unsat)
}

// P4.3: a proof that is first asked for when clauses have been added behind Unsat, and one of clauses that were added behind Sat and Unknown.
func TestProofAskedLate(t *testing.T) {
	s := solver(t, 4, []int{1, 2}, []int{-1, 2}, []int{3, -3})
	clauses := [][]int{{1, 2}, {-1, 2}, {3, -3}}
	if s.Solve(100) != api.Sat {
		t.Fatal("not Sat")
	}
	for _, c := range [][]int{{1, -2, 4}, {1, -2, -4}} {
		add(t, s, len(clauses), c...)
		clauses = append(clauses, c)
		s.Solve(1)
	}
	add(t, s, len(clauses), -1, -2)
	clauses = append(clauses, []int{-1, -2})
	if s.Solve(100) != api.Unsat {
		t.Fatal("not Unsat")
	}
	for _, c := range [][]int{{4, 4}, {}, {-4, 4}, {-1}} {
		add(t, s, len(clauses), c...)
		clauses = append(clauses, c)
	}
	for range 2 {
		if proof := s.Proof(); !shown(clauses, proof) || sat.Check(clauses, proof) != api.OK {
			t.Fatalf("no proof for %v: %v", clauses, proof)
		}
	}
}

// P4.3: of the empty clause, wherever it stands.
func TestProofOfTheEmptyClause(t *testing.T) {
	for place := range 4 {
		clauses := [][]int{{1, 2}, {-1}, {2, -2}}
		clauses = slices.Insert(clauses, place, []int{})
		wantVerdict(t, solver(t, 2, clauses...), clauses, enough(2), api.Unsat)
	}
	wantVerdict(t, solver(t, 0, []int{}), [][]int{{}}, enough(0), api.Unsat)
}

// P4.7: a clause more never turns Unsat into Sat; the verdict stays, with any budget.
func TestUnsatStays(t *testing.T) {
	d := dice(19)
	stayed := 0
	for range 200 {
		clauses := d.clauses(4, 40, 3)
		if len(models(4, clauses)) > 0 {
			continue
		}
		stayed++
		s := solver(t, 4, clauses...)
		wantVerdict(t, s, clauses, enough(4), api.Unsat)
		for range 5 {
			c := d.clause(4, d.next(5))
			add(t, s, len(clauses), c...)
			clauses = append(clauses, c)
			wantVerdict(t, s, clauses, d.next(3)*enough(4), api.Unsat)
		}
		// and of another solver that is given all of them
		wantVerdict(t, solver(t, 4, clauses...), clauses, enough(4), api.Unsat)
	}
	if stayed < 50 {
		t.Errorf("only %d without a model", stayed)
	}
}
