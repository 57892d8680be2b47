package sat_test

import (
	"math"
	"slices"
	"testing"

	"surety/api"
	"surety/sat"
)

func four() [][]int { return [][]int{{1, 2}, {-1, 2}, {1, -2}, {-1, -2}} }

// fourProof: 2, then not 2, then nothing.
func fourProof() []api.Chain {
	return []api.Chain{
		{Clause: []int{2}, First: 0, Steps: []api.Link{{Clause: 1, Var: 1}}},
		{Clause: []int{-2}, First: 3, Steps: []api.Link{{Clause: 2, Var: 1}}},
		{First: 4, Steps: []api.Link{{Clause: 5, Var: 2}}},
	}
}

func wantCheck(t *testing.T, what string, clauses [][]int, proof []api.Chain, want api.Errno) {
	t.Helper()
	if err := sat.Check(clauses, proof); err != want {
		t.Errorf("%s: Check: error %d; want %d", what, err, want)
	}
}

// P4.5: what is taken.
func TestCheck(t *testing.T) {
	wantCheck(t, "four clauses", four(), fourProof(), api.OK)
	wantCheck(t, "in one chain", [][]int{{1, 2}, {-1}, {-2}}, []api.Chain{{First: 0, Steps: []api.Link{{Clause: 1, Var: 1}, {Clause: 2, Var: 2}}}}, api.OK)
	wantCheck(t, "the empty clause", [][]int{{3}, {}}, []api.Chain{{First: 1}}, api.OK)
	wantCheck(t, "an empty one twice", [][]int{{}}, []api.Chain{{First: 0}, {First: 1}}, api.OK)
	wantCheck(t, "literals twice", [][]int{{2, 1, 2, 1}, {-1, -1}, {-2}}, []api.Chain{{Clause: []int{2}, First: 0, Steps: []api.Link{{Clause: 1, Var: 1}}}, {First: 3, Steps: []api.Link{{Clause: 2, Var: 2}}}}, api.OK)
	wantCheck(t, "a copy of a clause", [][]int{{3, 1, 3}, {-1}, {-3}}, []api.Chain{{Clause: []int{1, 3}, First: 0}, {First: 3, Steps: []api.Link{{Clause: 2, Var: 3}, {Clause: 1, Var: 1}}}}, api.OK)
	wantCheck(t, "a clause in another order", [][]int{{3, 1, 3}, {-1}, {-3}}, []api.Chain{{Clause: []int{3, 1, 1}, First: 0}, {First: 3, Steps: []api.Link{{Clause: 2, Var: 3}, {Clause: 1, Var: 1}}}}, api.OK)
	wantCheck(t, "the greatest variable", [][]int{{api.MaxVars}, {-api.MaxVars}}, []api.Chain{{First: 1, Steps: []api.Link{{Clause: 0, Var: api.MaxVars}}}}, api.OK)
	wantCheck(t, "clauses that aren't needed", append(four(), []int{}, []int{7, -7}), []api.Chain{{First: 4}}, api.OK)
}

// P4.5: literals that may not be, ahead of what the proof is.
func TestCheckLiterals(t *testing.T) {
	for _, l := range []int{0, api.MaxVars + 1, -api.MaxVars - 1, math.MaxInt, math.MinInt} {
		for place := range 5 {
			for _, proof := range [][]api.Chain{fourProof(), nil, {{First: -1}}} {
				wantCheck(t, "a wrong literal", slices.Insert(four(), place, []int{1, l, 2}), proof, api.ErrLit)
			}
		}
		wantCheck(t, "a wrong literal behind a clause that suffices", [][]int{{}, {l}}, []api.Chain{{First: 0}}, api.ErrLit)
		wantCheck(t, "a wrong literal in a chain", four(), []api.Chain{{Clause: []int{l}, First: 0}}, api.ErrProof)
	}
}

// P4.5: each way in which a proof may be none.
func TestCheckRefuses(t *testing.T) {
	for _, c := range []struct {
		what   string
		change func(proof []api.Chain) []api.Chain
	}{
		{"no chain", func(p []api.Chain) []api.Chain { return nil }},
		{"the last one isn't empty", func(p []api.Chain) []api.Chain { return p[:2] }},
		{"one that isn't empty behind one that is", func(p []api.Chain) []api.Chain { return append(p, api.Chain{Clause: []int{1, 2}, First: 0}) }},
		{"First is its own place", func(p []api.Chain) []api.Chain { p[0].First = 4; return p }},
		{"First is a later place", func(p []api.Chain) []api.Chain { p[0].First = 5; return p }},
		{"First is no place", func(p []api.Chain) []api.Chain { p[2].First = 100; return p }},
		{"First is the greatest number", func(p []api.Chain) []api.Chain { p[2].First = math.MaxInt; return p }},
		{"First is below 0", func(p []api.Chain) []api.Chain { p[0].First = -1; return p }},
		{"First is the least number", func(p []api.Chain) []api.Chain { p[1].First = math.MinInt; return p }},
		{"a step's own place", func(p []api.Chain) []api.Chain { p[1].Steps[0].Clause = 5; return p }},
		{"a step's place is later", func(p []api.Chain) []api.Chain { p[0].Steps[0].Clause = 5; return p }},
		{"a step's place is below 0", func(p []api.Chain) []api.Chain { p[2].Steps[0].Clause = -1; return p }},
		{"a step's place is the greatest number", func(p []api.Chain) []api.Chain { p[2].Steps[0].Clause = math.MaxInt; return p }},
		{"another variable", func(p []api.Chain) []api.Chain { p[0].Steps[0].Var = 2; return p }},
		{"the variable 0", func(p []api.Chain) []api.Chain { p[0].Steps[0].Var = 0; return p }},
		{"a variable below 0", func(p []api.Chain) []api.Chain { p[0].Steps[0].Var = -1; return p }},
		{"the least variable", func(p []api.Chain) []api.Chain { p[0].Steps[0].Var = math.MinInt; return p }},
		{"a clause that can't be resolved", func(p []api.Chain) []api.Chain { p[0].Steps[0].Clause = 2; return p }},
		{"a step too many", func(p []api.Chain) []api.Chain { p[2].Steps = append(p[2].Steps, p[2].Steps[0]); return p }},
		{"a step too few", func(p []api.Chain) []api.Chain { p[2].Steps = nil; return p }},
		{"a literal too few", func(p []api.Chain) []api.Chain { p[0].Clause = nil; return p }},
		{"a literal too many", func(p []api.Chain) []api.Chain { p[0].Clause = []int{2, 3}; return p }},
		{"the opposite literal", func(p []api.Chain) []api.Chain { p[0].Clause = []int{-2}; return p }},
		{"a literal in the last", func(p []api.Chain) []api.Chain { p[2].Clause = []int{2}; return p }},
		{"a chain that nobody needs is wrong", func(p []api.Chain) []api.Chain {
			return slices.Insert(p, 2, api.Chain{Clause: []int{1}, First: 0})
		}},
	} {
		wantCheck(t, c.what, four(), c.change(fourProof()), api.ErrProof)
	}
	wantCheck(t, "no clauses and no chain", nil, nil, api.ErrProof)
	wantCheck(t, "no clauses", nil, []api.Chain{{}}, api.ErrProof)
	wantCheck(t, "an empty clause and no chain", [][]int{{}}, nil, api.ErrProof)
	wantCheck(t, "always true", [][]int{{1, -1}, {-1, 1}}, []api.Chain{{First: 0, Steps: []api.Link{{Clause: 1, Var: 1}}}}, api.ErrProof)
}

// changed: one thing in a proof is another one.
func (d *dice) changed(proof []api.Chain) []api.Chain {
	i := d.next(len(proof))
	chain := &proof[i]
	switch d.next(7) {
	case 0:
		chain.First += d.next(7) - 3
	case 1:
		chain.Clause = append(chain.Clause, d.literal(4))
	case 2:
		chain.Clause = chain.Clause[:d.next(len(chain.Clause)+1)]
	case 3:
		proof = slices.Delete(proof, i, i+1)
	case 4:
		proof = slices.Insert(proof, i, *chain)
	default:
		if len(chain.Steps) > 0 {
			step := &chain.Steps[d.next(len(chain.Steps))]
			step.Clause += d.next(5) - 2
			step.Var += d.next(2) * (d.next(3) - 1)
		}
	}
	return proof
}

// P4.5 and P4.6: proofs that are changed a little are taken just if the tests' own checker takes them, and what is taken has no model.
func TestCheckOfMany(t *testing.T) {
	d := dice(23)
	taken := 0
	const count = 4000
	for range count {
		clauses := d.clauses(4, 30, 1+d.next(4))
		s := solver(t, 4, clauses...)
		if s.Solve(enough(4)) != api.Unsat {
			continue
		}
		proof := d.changed(s.Proof())
		if d.next(4) == 0 && len(proof) > 0 {
			proof = d.changed(proof)
		}
		if d.next(3) == 0 {
			clauses = slices.Delete(clauses, 29, 30)
		}
		err := sat.Check(clauses, proof)
		if want := shown(clauses, proof); (err == api.OK) != want || err != api.OK && err != api.ErrProof {
			t.Fatalf("Check(%v, %v): error %d; taken by the other: %v", clauses, proof, err, want)
		}
		if err == api.OK {
			taken++
			if all := models(4, clauses); len(all) > 0 {
				t.Fatalf("Check took a proof for %v, which has the model %v", clauses, all[0])
			}
		}
	}
	if taken < count/100 || taken > count*9/10 {
		t.Errorf("%d of %d taken: too few or too many to tell", taken, count)
	}
}
