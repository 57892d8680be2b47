package simplex_test

import (
	"math"
	"testing"

	"surety/api"
	"surety/arith"
	"surety/linear"
	"surety/simplex"
)

// resty: a row whose sum has a rest.
func resty(t testing.TB, rest int) linear.Row {
	t.Helper()
	x, err := linear.Var(3)
	if err != api.OK {
		t.Fatal(err)
	}
	sum, err := linear.Add(x, linear.Num(arith.From(rest)))
	if err != api.OK {
		t.Fatal(err)
	}
	return linear.Row{Sum: sum, Most: arith.From(5)}
}

func wantRefused(t testing.TB, s *simplex.System, r linear.Row, want api.Errno) {
	t.Helper()
	count := s.Rows()
	if n, err := s.Add(r); n != 0 || err != want || s.Rows() != count {
		t.Fatalf("Add: number %d, error %d, %d rows; want 0, error %d, %d rows", n, err, s.Rows(), want, count)
	}
}

// P6.1: rows are numbered from 0 on, the same row twice too.
func TestAddNumbers(t *testing.T) {
	s := system(t)
	if s.Rows() != 0 {
		t.Errorf("a new system has %d rows", s.Rows())
	}
	wantVars(t, s)
	add(t, s, row(3, 0, 1), row(3, 0, 1), row(-3, 0, -1), row(0), row(-1), row(2, 1, 0))
	if s.Rows() != 6 {
		t.Errorf("%d rows; want 6", s.Rows())
	}
}

// P6.1: a row by the zero Row: 0 is at most 0.
func TestAddZeroRow(t *testing.T) {
	s := simplex.New()
	if n, err := s.Add(linear.Row{}); n != 0 || err != api.OK || s.Rows() != 1 {
		t.Fatalf("Add: number %d, error %d", n, err)
	}
	if s.Solve(10) != api.Sat {
		t.Error("0 isn't at most 0")
	}
}

// P6.1: a sum with a rest is no row's.
func TestAddRest(t *testing.T) {
	s := system(t)
	for _, rest := range []int{1, -1, math.MaxInt, math.MinInt} {
		wantRefused(t, s, resty(t, rest), api.ErrRow)
	}
	wantRefused(t, s, linear.Row{Sum: linear.Num(arith.From(7))}, api.ErrRow)
	add(t, s, row(1, 0, 1))
	wantRefused(t, s, resty(t, 2), api.ErrRow)
	wantVars(t, s, 0)
	if _, err := s.Add(resty(t, 0)); err != api.OK {
		t.Errorf("Add: error %d of a rest of 0", err)
	}
}

// P6.1: there are MaxRows rows at most; of a row with a rest that counts first.
func TestAddLong(t *testing.T) {
	s := system(t)
	for i := range api.MaxRows {
		add(t, s, row(i, i%7, 1+i))
	}
	more := read(t, row(0, 9, 1))[0]
	for range 2 {
		wantRefused(t, s, more, api.ErrLong)
		wantRefused(t, s, resty(t, 1), api.ErrLong)
	}
	wantVars(t, s, 0, 1, 2, 3, 4, 5, 6)
	cut(t, s, api.MaxRows-1)
	wantRefused(t, s, resty(t, 1), api.ErrRow)
	if n, err := s.Add(more); n != api.MaxRows-1 || err != api.OK {
		t.Errorf("Add behind Cut: number %d, error %d", n, err)
	}
	wantRefused(t, s, more, api.ErrLong)
	wantVars(t, s, 0, 1, 2, 3, 4, 5, 6, 9)
}

// P6.1: Cut leaves the first rows, and only them.
func TestCut(t *testing.T) {
	rows := []api.Row{row(5, 4, 1), row(-3, 2, -1), row(1, 2, 1), row(0, 3, 1, 4, -1)}
	s := system(t, rows...)
	for _, n := range []int{-1, 5, math.MinInt, math.MaxInt} {
		if err := s.Cut(n); err != api.ErrRange || s.Rows() != 4 {
			t.Errorf("Cut(%d): error %d, %d rows", n, err, s.Rows())
		}
	}
	solve(t, s, rows, 1000, api.Unsat)
	cut(t, s, 4)
	solve(t, s, rows, 1000, api.Unsat)
	wantVars(t, s, 2, 3, 4)
	cut(t, s, 2)
	solve(t, s, rows[:2], 1000, api.Sat)
	wantVars(t, s, 2, 4)
	if s.Cut(3) != api.ErrRange {
		t.Error("rows that were cut came back")
	}
	cut(t, s, 0)
	wantVars(t, s)
	solve(t, s, nil, 1000, api.Sat)
	cut(t, s, 0)
	if s.Cut(1) != api.ErrRange || s.Cut(-1) != api.ErrRange {
		t.Error("Cut of no rows took a number that isn't 0")
	}
}

// P6.1: rows behind Cut take the places of those that were cut.
func TestAddBehindCut(t *testing.T) {
	rows := example()
	s := system(t, rows...)
	solve(t, s, rows, 1000, api.Unsat)
	cut(t, s, 1)
	rows = []api.Row{rows[0], row(-2, 5, -1), row(-4, 0, -3)}
	add(t, s, rows[1:]...)
	wantVars(t, s, 0, 1, 5)
	solve(t, s, rows, 1000, api.Sat)
	add(t, s, row(1, 5, 1))
	solve(t, s, append(rows, row(1, 5, 1)), 1000, api.Unsat)
	wantParts(t, s, api.Part{Row: 1, Mult: "1"}, api.Part{Row: 3, Mult: "1"})
}

// P6.1: Vars tells variables with a coefficient that isn't 0, rising, each once.
func TestVars(t *testing.T) {
	s := system(t, row(1, 9, 1, 3, -2), row(1, 5, 0), row(1, 7, 2, 7, -2, 9, 4), row(0), row(2, 0, 1), row(2, api.MaxVars-1, 1))
	wantVars(t, s, 0, 3, 9, api.MaxVars-1)
	cut(t, s, 4)
	wantVars(t, s, 3, 9)
	add(t, s, row(1, 5, 1))
	wantVars(t, s, 3, 5, 9)
}
