package sat_test

import (
	"math"
	"slices"
	"testing"

	"surety/api"
	"surety/sat"
)

// P2: Set and Resolve leave their lists, with their spare room, and answer new ones.
func TestListsStay(t *testing.T) {
	room := []int{3, 1, -2, 1, 9, 9}
	other := []int{2, 1, 3, 7, 7}
	a, b := room[:4], other[:3]
	set := sat.Set(a)
	out, _ := sat.Resolve(a, b, 2)
	again, _ := sat.Resolve(a, b, 2)
	sat.Resolve(a, b, 5)
	clear(set)
	_ = append(set[:0], 5, 5, 5, 5)
	clear(out)
	_ = append(out[:0], 5, 5, 5, 5)
	if !slices.Equal(room, []int{3, 1, -2, 1, 9, 9}) || !slices.Equal(other, []int{2, 1, 3, 7, 7}) {
		t.Errorf("lists became %v and %v", room, other)
	}
	if !slices.Equal(again, []int{1, 3}) {
		t.Errorf("an answer became %v", again)
	}
	sorted := []int{1, 2}
	if got := sat.Set(sorted); len(got) == 2 {
		got[0] = 7
	}
	if sorted[0] != 1 {
		t.Error("Set answered what it was given")
	}
}

// P2: Check leaves clauses and proof.
func TestCheckLeavesAll(t *testing.T) {
	clauses, proof := four(), fourProof()
	clauses[0] = append(make([]int, 0, 9), 2, 1)
	room := clauses[0][:9]
	sat.Check(clauses, proof)
	sat.Check(clauses, proof[:1])
	if !slices.Equal(room, []int{2, 1, 0, 0, 0, 0, 0, 0, 0}) || !slices.Equal(clauses[3], []int{-1, -2}) {
		t.Errorf("clauses became %v", clauses)
	}
	for i, want := range fourProof() {
		if !slices.Equal(proof[i].Clause, want.Clause) || !slices.Equal(proof[i].Steps, want.Steps) || proof[i].First != want.First {
			t.Errorf("a chain became %v", proof[i])
		}
	}
}

// P2: literals that were handed in may be changed afterwards; Add itself doesn't.
func TestAddDoesNotKeep(t *testing.T) {
	s := solver(t, 3)
	room := []int{2, -1, 2, 3, 3}
	add(t, s, 0, room[:3]...)
	if !slices.Equal(room, []int{2, -1, 2, 3, 3}) {
		t.Errorf("Add made %v of its literals", room)
	}
	room[0], room[1], room[2] = -2, -2, -2
	add(t, s, 1, 1)
	wantVerdict(t, s, [][]int{{2, -1}, {1}}, enough(3), api.Sat)
	if !s.Model()[1] {
		t.Error("a clause changed with the list it was made of")
	}
	room[0] = -2
	add(t, s, 2, room[:1]...)
	s.Solve(enough(3))
	room[0] = 3
	if proof := s.Proof(); sat.Check([][]int{{2, -1}, {1}, {-2}}, proof) != api.OK {
		t.Errorf("no proof: %v", proof)
	}
}

// P2: what is changed in an answer changes neither the solver nor another answer.
func TestAnswersAreNew(t *testing.T) {
	clauses := [][]int{{1}, {-1, 2}, {3, 4}}
	s := solver(t, 4, clauses...)
	wantVerdict(t, s, clauses, enough(4), api.Sat)
	model, fixed, second := s.Model(), s.Fixed(), s.Fixed()
	want := slices.Clone(model)
	for i := range model {
		model[i] = !model[i]
	}
	clear(fixed)
	_ = append(fixed[:0], 7, 7, 7)
	if !slices.Equal(s.Model(), want) || !slices.Equal(s.Fixed(), []int{1, 2}) || !slices.Equal(second, []int{1, 2}) {
		t.Errorf("the model became %v, what is fixed %v and %v", s.Model(), s.Fixed(), second)
	}
	wantVerdict(t, s, clauses, enough(4), api.Sat)

	s = solver(t, 2, four()...)
	wantVerdict(t, s, four(), enough(2), api.Unsat)
	first, other := s.Proof(), s.Proof()
	for i := range first {
		clear(first[i].Clause)
		clear(first[i].Steps)
		_ = append(first[i].Clause[:0], 7, 7)
		_ = append(first[i].Steps[:0], api.Link{Clause: 7, Var: 7})
		first[i] = api.Chain{First: 7}
	}
	if sat.Check(four(), other) != api.OK || sat.Check(four(), s.Proof()) != api.OK {
		t.Error("a proof changed with another one")
	}
}

// P2, rule 3: a solver on which calls were refused answers as one on which they weren't made.
func TestRefusedCallsLeaveNothing(t *testing.T) {
	vars, clauses := pigeons(4)
	plain, s := solver(t, vars), solver(t, vars)
	for i, c := range clauses {
		add(t, plain, i, c...)
		wantRefused(t, s, api.ErrLit, append(slices.Clone(c), 0)...)
		wantRefused(t, s, api.ErrLit, append([]int{vars + 1}, c...)...)
		wantRefused(t, s, api.ErrLong, repeated(c[0], api.MaxVars+1)...)
		s.Grow(vars - 1)
		s.Grow(api.MaxVars + 1)
		add(t, s, i, c...)
		for _, budget := range []int{i % 5, 20} {
			if a, b := plain.Solve(budget), s.Solve(budget); a != b || plain.Steps() != s.Steps() || !slices.Equal(plain.Model(), s.Model()) || !slices.Equal(plain.Fixed(), s.Fixed()) {
				t.Fatalf("verdicts %d and %d, steps %d and %d", a, b, plain.Steps(), s.Steps())
			}
		}
	}
	if a, b := plain.Solve(100000), s.Solve(100000); a != api.Unsat || b != api.Unsat {
		t.Fatalf("verdicts %d and %d", a, b)
	}
	if a, b := plain.Proof(), s.Proof(); !slices.EqualFunc(a, b, sameChain) {
		t.Error("the proofs aren't the same")
	}
}

func sameChain(a, b api.Chain) bool {
	return a.First == b.First && slices.Equal(a.Clause, b.Clause) && slices.Equal(a.Steps, b.Steps)
}

// P1: numbers that are no literals don't make anything panic.
func TestNothingPanics(t *testing.T) {
	odd := []int{math.MinInt, math.MaxInt, -math.MaxInt, 0, 1, -1, math.MinInt, 4097, -4097}
	for i := range odd {
		sat.Set(odd[i:])
		sat.Luby(odd[i])
		s := solver(t, 1)
		s.Grow(odd[i])
		s.Add(odd[i:]...)
		s.Solve(odd[i])
		s.Proof()
		for _, v := range odd {
			sat.Resolve(odd[i:], odd, v)
			sat.Check([][]int{{1}, {-1}, nil}, []api.Chain{{Clause: odd[i:], First: v, Steps: []api.Link{{Clause: v, Var: odd[i]}, {Clause: odd[i], Var: v}}}})
		}
	}
}
