package sat_test

import (
	"math"
	"testing"

	"surety/api"
	"surety/sat"
)

// P4.1.
func TestNew(t *testing.T) {
	for _, vars := range []int{0, 1, 2, 4095, api.MaxVars} {
		s := solver(t, vars)
		if s.Vars() != vars || s.Steps() != 0 || len(s.Model()) != 0 || len(s.Fixed()) != 0 || len(s.Proof()) != 0 {
			t.Errorf("New(%d): %d variables, %d steps", vars, s.Vars(), s.Steps())
		}
		add(t, s, 0)
	}
	for _, vars := range []int{-1, api.MaxVars + 1, math.MinInt, math.MaxInt} {
		if s, err := sat.New(vars); s != nil || err != api.ErrRange {
			t.Errorf("New(%d): error %d; want ErrRange and no solver", vars, err)
		}
	}
}

// P4.1: to the same number, by some, and to the most there may be.
func TestGrow(t *testing.T) {
	s := solver(t, 2, []int{1, -2})
	for _, vars := range []int{2, 3, 3, 40, api.MaxVars, api.MaxVars} {
		if vars > s.Vars() {
			if _, err := s.Add(1, vars); err != api.ErrLit {
				t.Errorf("Add of %d ahead of Grow: error %d", vars, err)
			}
		}
		grow(t, s, vars)
	}
	add(t, s, 1, api.MaxVars, -api.MaxVars+1)
	for _, vars := range []int{api.MaxVars - 1, api.MaxVars + 1, 0, -1, math.MinInt, math.MaxInt} {
		if err := s.Grow(vars); err != api.ErrRange || s.Vars() != api.MaxVars {
			t.Errorf("Grow(%d): error %d, %d variables", vars, err, s.Vars())
		}
	}
	if err := solver(t, 5).Grow(4); err != api.ErrRange {
		t.Errorf("Grow(4) of 5 variables: error %d", err)
	}
	none := solver(t, 0)
	grow(t, none, 0)
	grow(t, none, 1)
	add(t, none, 0, -1)
	wantVerdict(t, none, [][]int{{-1}}, enough(1), api.Sat)
}

func wantRefused(t *testing.T, s *sat.Solver, want api.Errno, lits ...int) {
	t.Helper()
	if number, err := s.Add(lits...); number != 0 || err != want {
		t.Errorf("Add of %d literals: number %d, error %d; want 0, error %d", len(lits), number, err, want)
	}
}

// repeated: one literal so many times.
func repeated(l, count int) []int {
	out := make([]int, count)
	for i := range out {
		out[i] = l
	}
	return out
}

// P4.1: what is refused, the first error of several, and that it counts for nothing.
func TestAddRefuses(t *testing.T) {
	s := solver(t, 3)
	add(t, s, 0, 1, 2)
	for _, l := range []int{0, 4, -4, api.MaxVars, -api.MaxVars - 1, math.MaxInt, math.MinInt} {
		wantRefused(t, s, api.ErrLit, l)
		wantRefused(t, s, api.ErrLit, 1, l, 2)
		wantRefused(t, s, api.ErrLit, append(repeated(1, api.MaxVars), l)...)
	}
	wantRefused(t, s, api.ErrLong, repeated(-3, api.MaxVars+1)...)
	wantRefused(t, s, api.ErrLong, repeated(-3, 3*api.MaxVars)...)
	add(t, s, 1, repeated(3, api.MaxVars)...)
	add(t, s, 2, -1, -1)
	wantVerdict(t, s, [][]int{{1, 2}, {3}, {-1}}, enough(3), api.Sat)
	wantRefused(t, solver(t, 0), api.ErrLit, 1)
	wantRefused(t, solver(t, 0), api.ErrLit, 0)
}

// P4.1: so many clauses and no more; empty ones, those that are always true and the same one again count too.
func TestMaxClauses(t *testing.T) {
	s := solver(t, 4)
	var all [][]int
	for i := range api.MaxClauses {
		c := [][]int{{1, -1}, {1, 2, 3}, {-4}, {2, 3, 1, 1}}[i%4]
		all = append(all, c)
		add(t, s, i, c...)
	}
	wantRefused(t, s, api.ErrLong, 1)
	wantRefused(t, s, api.ErrLong)
	wantRefused(t, s, api.ErrLit, 5)
	wantVerdict(t, s, all, enough(4), api.Sat)
	wantRefused(t, s, api.ErrLong, 1)
	if len(s.Model()) != 4 {
		t.Errorf("a refused clause took the model away")
	}
}

// P4.1: behind Unsat clauses are counted as ever.
func TestMaxClausesBehindUnsat(t *testing.T) {
	s := solver(t, 2, []int{1}, []int{-1})
	all := [][]int{{1}, {-1}}
	wantVerdict(t, s, all, enough(2), api.Unsat)
	for i := 2; i < api.MaxClauses; i++ {
		all = append(all, []int{2})
		add(t, s, i, 2)
	}
	wantRefused(t, s, api.ErrLong, 1)
	wantRefused(t, s, api.ErrLit, 3)
	wantVerdict(t, s, all, 0, api.Unsat)
}

// P4.1: as many variables as may be, each forced by the one ahead of it; then one clause that is false.
func TestMaxVars(t *testing.T) {
	s := solver(t, api.MaxVars)
	var all [][]int
	for v := 1; v < api.MaxVars; v++ {
		all = append(all, []int{-v, v + 1})
		add(t, s, v-1, -v, v+1)
	}
	wantVerdict(t, s, all, 3*api.MaxVars, api.Sat)
	all = append(all, []int{1})
	add(t, s, api.MaxVars-1, 1)
	wantVerdict(t, s, all, 3*api.MaxVars, api.Sat)
	var long []int
	for v := range api.MaxVars {
		long = append(long, -v-1)
	}
	all = append(all, long)
	add(t, s, api.MaxVars, long...)
	wantVerdict(t, s, all, 1, api.Unsat)
}
