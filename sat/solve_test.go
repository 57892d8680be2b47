package sat_test

import (
	"math"
	"slices"
	"testing"

	"surety/api"
)

// subsets: of a list of clauses.
func subsets(list [][]int) [][][]int {
	var out [][][]int
	for bits := range 1 << len(list) {
		var some [][]int
		for i, c := range list {
			if bits>>i&1 != 0 {
				some = append(some, c)
			}
		}
		out = append(out, some)
	}
	return out
}

// P4.2: all sets of clauses over no variable, one and two, with just the budget that suffices always.
func TestAllSmallOnes(t *testing.T) {
	for vars, list := range [][][]int{
		{{}},
		{{}, {1}, {-1}, {1, -1}, {-1, -1}},
		{{1}, {-1}, {2}, {-2}, {1, 2}, {-1, 2}, {2, 1, -2}, {1, -2}, {-2, -1, -2}, {}},
	} {
		for _, clauses := range subsets(list) {
			wantRight(t, solver(t, vars, clauses...), clauses, enough(vars))
		}
	}
}

// P4.2: mixed clauses, the same twice among them, with just the budget that suffices always.
func TestManySmallOnes(t *testing.T) {
	d := dice(7)
	seen := make([]int, 3)
	for range 3000 {
		vars := 1 + d.next(7)
		clauses := d.clauses(vars, d.next(5*vars+3), 1+d.next(3))
		clauses = append(clauses, d.clauses(vars, d.next(3), 1+d.next(5))...)
		if len(clauses) > 0 && d.next(3) == 0 {
			clauses = append(clauses, clauses[d.next(len(clauses))])
		}
		seen[wantRight(t, solver(t, vars, clauses...), clauses, enough(vars))]++
	}
	if seen[api.Sat] < 500 || seen[api.Unsat] < 500 {
		t.Errorf("%d with a model, %d without: too few to tell", seen[api.Sat], seen[api.Unsat])
	}
}

// P4.2: whatever the budget, the verdict is right, and the steps are all of it with Unknown.
func TestBudgets(t *testing.T) {
	d := dice(11)
	seen := make([]int, 3)
	for range 60 {
		vars := 4 + d.next(4)
		clauses := d.clauses(vars, 4*vars, 3)
		for budget := -2; budget < 40; budget++ {
			seen[wantRight(t, solver(t, vars, clauses...), clauses, budget)]++
		}
	}
	for _, budget := range []int{-1, math.MinInt, 0, math.MaxInt} {
		seen[wantRight(t, solver(t, 2, []int{1, 2}), [][]int{{1, 2}}, budget)]++
	}
	if slices.Min(seen) < 100 {
		t.Errorf("too few of one verdict: %v", seen)
	}
}

// P4.2: with a budget of the steps that it took it takes them again, and with one less it is Unknown.
func TestBudgetOfTheSteps(t *testing.T) {
	vars, clauses := pigeons(4)
	s := solver(t, vars, clauses...)
	if s.Steps() != 0 {
		t.Errorf("%d steps ahead of the first Solve", s.Steps())
	}
	wantVerdict(t, s, clauses, math.MaxInt, api.Unsat)
	steps := s.Steps()
	if steps < 2 {
		t.Fatalf("%d steps", steps)
	}
	wantVerdict(t, solver(t, vars, clauses...), clauses, steps, api.Unsat)
	for _, budget := range []int{steps - 1, steps / 2, 1, 0, -1, math.MinInt} {
		wantVerdict(t, solver(t, vars, clauses...), clauses, budget, api.Unknown)
	}
}

// P4.2: a clause that is false by itself is a step, too: without a budget for it there is no verdict, and it is found again.
func TestFalseClauseIsAStep(t *testing.T) {
	for _, clauses := range [][][]int{{{}}, {{1}, {-1}}, {{-1, 2}, {1}, {-2}}, {{1, 2}, {1, -2}, {-1}, {3, 4}}} {
		s := solver(t, 4, clauses...)
		for _, budget := range []int{0, -1, 0} {
			wantVerdict(t, s, clauses, budget, api.Unknown)
		}
		wantVerdict(t, s, clauses, 1, api.Unsat)
		if s.Steps() != 1 {
			t.Errorf("%v: %d steps", clauses, s.Steps())
		}
	}
}

// P4.2: what needs no choice needs no budget.
func TestNoStep(t *testing.T) {
	for _, clauses := range [][][]int{nil, {{1}}, {{-1, 2}, {1}}, {{1, -1}}} {
		wantVerdict(t, solver(t, 2, clauses...), clauses, 0, api.Sat)
		wantVerdict(t, solver(t, 2, clauses...), clauses, -5, api.Sat)
	}
	wantVerdict(t, solver(t, 0), nil, 0, api.Sat)
}

// P4.2: Solve again behind each verdict, and Steps tells of the last one alone.
func TestSolveAgain(t *testing.T) {
	vars, clauses := pigeons(3)
	s := solver(t, vars, clauses[1:]...)
	less := clauses[1:]
	wantVerdict(t, s, less, 0, api.Unknown)
	wantVerdict(t, s, less, 1, api.Unknown)
	wantVerdict(t, s, less, 1000, api.Sat)
	wantVerdict(t, s, less, 1000, api.Sat)
	wantVerdict(t, s, less, 0, api.Unknown)
	if s.Steps() != 0 || len(s.Model()) != 0 {
		t.Errorf("behind Unknown: %d steps, the model %v", s.Steps(), s.Model())
	}
	all := append(slices.Clone(less), clauses[0])
	add(t, s, len(less), clauses[0]...)
	wantVerdict(t, s, all, 2, api.Unknown)
	steps := s.Steps()
	wantRefused(t, s, api.ErrLit, 0)
	grow(t, s, vars+1)
	add(t, s, len(all), vars+1)
	if s.Steps() != steps {
		t.Errorf("%d steps became %d without a Solve", steps, s.Steps())
	}
	all = append(all, []int{vars + 1})
	wantVerdict(t, s, all, 1000, api.Unsat)
	wantVerdict(t, s, all, 1000, api.Unsat)
	wantVerdict(t, s, all, 0, api.Unsat)
	wantVerdict(t, s, all, -1, api.Unsat)
}

// P4.2: a budget that suffices always does so whatever came ahead, and each verdict is right between clauses and variables more.
func TestMixedCalls(t *testing.T) {
	d := dice(13)
	for range 400 {
		s := solver(t, d.next(3))
		var clauses [][]int
		for range 25 {
			vars := s.Vars()
			switch d.next(6) {
			case 0:
				grow(t, s, min(vars+d.next(2), 6))
			case 1:
				wantRight(t, s, clauses, enough(vars))
			case 2:
				wantRight(t, s, clauses, d.next(6)-1)
			default:
				if vars > 0 {
					c := d.clause(vars, 1+d.next(3))
					add(t, s, len(clauses), c...)
					clauses = append(clauses, c)
				}
			}
		}
		wantRight(t, s, clauses, enough(s.Vars()))
	}
}

// P4.2: the model is there behind Sat, till a clause or variables come or Solve is called again; what is refused leaves it.
func TestModelGoes(t *testing.T) {
	clauses := [][]int{{1, 2}, {-1, 2}, {3, 1}}
	s := solver(t, 3, clauses...)
	if len(s.Model()) != 0 {
		t.Errorf("ahead of Solve: %v", s.Model())
	}
	wantVerdict(t, s, clauses, 100, api.Sat)
	wantRefused(t, s, api.ErrLit, 4)
	wantRefused(t, s, api.ErrLong, repeated(1, api.MaxVars+1)...)
	if s.Grow(2) != api.ErrRange || s.Grow(api.MaxVars+1) != api.ErrRange {
		t.Error("Grow out of its range")
	}
	if model := s.Model(); len(model) != 3 || !allTrue(model, clauses) {
		t.Errorf("behind calls that were refused: %v", model)
	}
	for _, ask := range []func(){func() { s.Vars() }, func() { s.Steps() }, func() { s.Fixed() }, func() { s.Proof() }} {
		ask()
		if model := s.Model(); len(model) != 3 || !allTrue(model, clauses) {
			t.Errorf("behind a question: %v", model)
		}
	}
	add(t, s, 3, 1, -1)
	if len(s.Model()) != 0 {
		t.Errorf("behind a clause more: %v", s.Model())
	}
	wantVerdict(t, s, clauses, 100, api.Sat)
	grow(t, s, 4)
	if len(s.Model()) != 0 {
		t.Errorf("behind a variable more: %v", s.Model())
	}
	wantVerdict(t, s, clauses, 100, api.Sat)
	wantVerdict(t, s, clauses, 0, api.Unknown)
	if len(s.Model()) != 0 {
		t.Errorf("behind Unknown: %v", s.Model())
	}
}

// P4.2: greater ones, with and without a model.
func TestGreaterOnes(t *testing.T) {
	for holes := 1; holes <= 6; holes++ {
		vars, clauses := pigeons(holes)
		wantVerdict(t, solver(t, vars, clauses...), clauses, 1000000, api.Unsat)
		wantVerdict(t, solver(t, vars, clauses[1:]...), clauses[1:], 1000000, api.Sat)
	}
	d := dice(17)
	seen := make([]int, 3)
	for range 12 {
		clauses := d.clauses(100, 420, 3)
		s := solver(t, 100, clauses...)
		verdict := solve(t, s, clauses, 1000000)
		seen[verdict]++
		if verdict != api.Sat {
			continue
		}
		// each model that is forbidden leaves another one, or none
		for range 5 {
			var other []int
			for v, is := range s.Model() {
				if is {
					other = append(other, -v-1)
				} else {
					other = append(other, v+1)
				}
			}
			add(t, s, len(clauses), other...)
			clauses = append(clauses, other)
			if solve(t, s, clauses, 1000000) != api.Sat {
				break
			}
		}
	}
	if seen[api.Unknown] > 0 || seen[api.Sat] == 0 || seen[api.Unsat] == 0 {
		t.Errorf("verdicts: %v", seen)
	}
}
