package simplex_test

import (
	"math"
	"testing"

	"surety/api"
	"surety/simplex"
)

// pinned: variables 1 and 6 are 7/2 and -3.
func pinned() []api.Row {
	return []api.Row{row(7, 1, 2), row(-7, 1, -2), row(1, 6, 1, 1, 0, 9, 0), row(-3, 6, 1), row(3, 6, -1)}
}

func wantPinned(t *testing.T, s *simplex.System) {
	t.Helper()
	wantValue(t, s, 1, "7/2")
	wantValue(t, s, 6, "-3")
}

func wantNothing(t *testing.T, s *simplex.System) {
	t.Helper()
	for v := range 10 {
		wantValue(t, s, v, "0")
	}
	wantParts(t, s)
}

// P6.3: values are there behind Sat, till something is added or cut, or it is solved again; behind Add, Cut and Unknown there is nothing.
func TestValuesComeAndGo(t *testing.T) {
	s := system(t, pinned()...)
	wantNothing(t, s)
	solve(t, s, pinned(), enough, api.Sat)
	wantPinned(t, s)
	wantPinned(t, s)
	wantParts(t, s)

	add(t, s, row(5, 2, 1))
	wantNothing(t, s)
	solve(t, s, pinned(), enough, api.Sat)
	wantPinned(t, s)

	cut(t, s, 5)
	wantNothing(t, s)
	solve(t, s, pinned(), enough, api.Sat)
	wantPinned(t, s)

	add(t, s, row(-2, 1, -1, 6, -1))
	solve(t, s, append(pinned(), row(-2, 1, -1, 6, -1)), enough, api.Unsat)
	for v := range 10 {
		wantValue(t, s, v, "0")
	}
	cut(t, s, 5)
	wantNothing(t, s)
	solve(t, s, pinned(), enough, api.Sat)
	cut(t, s, 0)
	wantNothing(t, s)
	solve(t, s, nil, enough, api.Sat)
	wantNothing(t, s)
}

// P6.3: factors are there behind Unsat, and go likewise.
func TestPartsComeAndGo(t *testing.T) {
	want := []api.Part{{Row: 0, Mult: "1"}, {Row: 1, Mult: "1"}, {Row: 2, Mult: "1"}}
	s := system(t, example()...)
	wantNothing(t, s)
	solve(t, s, example(), enough, api.Unsat)
	wantParts(t, s, want...)
	wantParts(t, s, want...)

	add(t, s, row(0, 7, 1))
	wantNothing(t, s)
	solve(t, s, example(), enough, api.Unsat)
	wantParts(t, s, want...)

	cut(t, s, 3)
	wantNothing(t, s)
	solve(t, s, example(), 0, api.Unknown)
	wantNothing(t, s)
	solve(t, s, example(), enough, api.Unsat)
	wantParts(t, s, want...)

	cut(t, s, 2)
	wantNothing(t, s)
	solve(t, s, example()[:2], enough, api.Sat)
	wantParts(t, s)
	wantValue(t, s, 0, "1")
}

// P6.3: where no row is cut, or a call is refused, what there is stays.
func TestWhatIsThereStays(t *testing.T) {
	sat, unsat := system(t, pinned()...), system(t, example()...)
	solve(t, sat, pinned(), enough, api.Sat)
	solve(t, unsat, example(), enough, api.Unsat)
	for _, s := range []*simplex.System{sat, unsat} {
		cut(t, s, s.Rows())
		for _, n := range []int{-1, s.Rows() + 1, math.MaxInt, math.MinInt} {
			if s.Cut(n) != api.ErrRange {
				t.Errorf("Cut(%d) wasn't refused", n)
			}
		}
		wantRefused(t, s, resty(t, 4), api.ErrRow)
	}
	wantPinned(t, sat)
	wantBorneOut(t, unsat, example(), api.Unsat)
}

// P6.3: a variable that no row names is 0, whatever its number.
func TestValueOfNoVariable(t *testing.T) {
	s := system(t, pinned()...)
	for range 2 {
		for _, v := range []int{math.MinInt, -1, 0, 2, 5, 7, 9, api.MaxVars - 1, api.MaxVars, math.MaxInt} {
			wantValue(t, s, v, "0")
		}
		solve(t, s, pinned(), enough, api.Sat)
	}
	rows := []api.Row{row(-1, api.MaxVars-1, 2, 0, 0)}
	s = system(t, rows...)
	solve(t, s, rows, enough, api.Sat)
	wantValue(t, s, 0, "0")
	if s.Value(api.MaxVars-1).Sign() >= 0 {
		t.Error("the last variable has no value")
	}
}

// P6.3: a variable that rows only name beside others has a value too, wherever it is reckoned.
func TestValueOfFreeVariables(t *testing.T) {
	d := dice(29)
	for range 200 {
		var rows []api.Row
		for range 12 {
			rows = append(rows, row(-1-d.next(9), d.next(6), 1+d.next(4), 6+d.next(6), -1-d.next(4)))
		}
		s := system(t, rows...)
		solve(t, s, rows, 1<<20, api.Sat)
	}
}
