package simplex_test

import (
	"math"
	"slices"
	"testing"

	"surety/api"
	"surety/arith"
	"surety/linear"
	"surety/simplex"
)

// P2: a row that was handed in may be changed afterwards, and so may a list that was answered.
func TestNothingIsShared(t *testing.T) {
	s := simplex.New()
	given := read(t, example()...)
	for i := range given {
		if _, err := s.Add(given[i]); err != api.OK {
			t.Fatal(err)
		}
		given[i].Most = arith.From(77)
		given[i].Sum = linear.Term{}
	}
	wantVars(t, s, 0, 1)
	solve(t, s, example(), enough, api.Unsat)
	parts, vars := s.Parts(), s.Vars()
	again := s.Parts()
	parts[0], vars[0] = api.Part{Row: 9, Mult: "9"}, 99
	_ = append(parts[:1], api.Part{}, api.Part{})
	_ = append(vars[:0], 5, 5)
	if again[0].Row != 0 || again[1].Row != 1 {
		t.Errorf("an answer became %v", again)
	}
	wantVars(t, s, 0, 1)
	wantBorneOut(t, s, example(), api.Unsat)
}

// P2: Shows changes neither the rows nor the parts, nor their spare room, refused or not.
func TestShowsLeavesItsLists(t *testing.T) {
	rows := read(t, append(example(), row(5, 7, 3))...)
	for _, last := range []string{"1", "x"} {
		parts := []api.Part{part(0, "1"), part(1, "1"), part(2, last), part(7, "7")}
		before := slices.Clone(parts)
		first := simplex.Shows(rows[:3], parts[:3])
		if !slices.Equal(parts, before) || first != simplex.Shows(rows[:3], parts[:3]) {
			t.Errorf("the parts became %v", parts)
		}
	}
	for i, r := range append(example(), row(5, 7, 3)) {
		if want := read(t, r)[0]; !linear.Same(rows[i].Sum, want.Sum) || arith.Cmp(rows[i].Most, want.Most) != 0 {
			t.Errorf("row %d became %v", i, rows[i].Plain())
		}
	}
}

// P2: two systems share nothing.
func TestSystemsAreApart(t *testing.T) {
	a, b := system(t, example()...), system(t, pinned()...)
	solve(t, a, example(), enough, api.Unsat)
	solve(t, b, pinned(), enough, api.Sat)
	cut(t, a, 0)
	wantPinned(t, b)
	wantVars(t, b, 1, 6)
	add(t, b, row(3, 3, 1))
	if a.Rows() != 0 || b.Rows() != 6 {
		t.Errorf("%d and %d rows", a.Rows(), b.Rows())
	}
}

// told: all that a system tells.
func told(s *simplex.System) []string {
	out := []string{arith.From(s.Rows()).Text(), arith.From(s.Steps()).Text()}
	for _, v := range s.Vars() {
		out = append(out, arith.From(v).Text(), s.Value(v).Text())
	}
	for _, p := range s.Parts() {
		out = append(out, arith.From(p.Row).Text(), p.Mult)
	}
	return out
}

// P2, rules 3 and 4: the same calls have the same answers, whatever was refused between them.
func TestRefusedCallsLeaveNothing(t *testing.T) {
	d := dice(31)
	for range 200 {
		plain, s := simplex.New(), simplex.New()
		for range 30 {
			wantRefused(t, s, resty(t, 1+d.next(5)), api.ErrRow)
			if s.Cut(-1-d.next(3)) != api.ErrRange || s.Cut(s.Rows()+1+d.next(3)) != api.ErrRange {
				t.Fatal("Cut wasn't refused")
			}
			var a, b api.Verdict
			switch d.next(4) {
			case 0:
				budget := d.next(12) - 2
				a, b = plain.Solve(budget), s.Solve(budget)
			case 1:
				n := d.next(plain.Rows() + 1)
				cut(t, plain, n)
				cut(t, s, n)
			default:
				r := row(d.number(9), d.next(5), d.number(9), d.next(5), d.number(9))
				add(t, plain, r)
				add(t, s, r)
			}
			if a != b || !slices.Equal(told(plain), told(s)) {
				t.Fatalf("%v became %v", told(plain), told(s))
			}
		}
	}
}

// P2, rule 4: the same rows in new systems have the same values and factors.
func TestSameCallsSameAnswers(t *testing.T) {
	d := dice(37)
	for range 200 {
		var rows []api.Row
		for range 15 {
			rows = append(rows, row(d.number(20), d.next(8), d.number(9), d.next(8), d.number(9), d.next(8), d.number(9)))
		}
		one, two := system(t, rows...), system(t, rows...)
		for range 2 {
			if a, b := one.Solve(enough), two.Solve(enough); a != b || !slices.Equal(told(one), told(two)) {
				t.Fatalf("%v: %d, %v and %d, %v", rows, a, told(one), b, told(two))
			}
		}
	}
}

// P1: odd numbers don't make anything panic, whatever the rows.
func TestNothingPanics(t *testing.T) {
	odd := []int{math.MinInt, math.MaxInt, -1, 0, 1, 2, api.MaxRows, api.MaxVars}
	d := dice(41)
	for range 50 {
		rows := d.bigSystem()
		for _, n := range odd {
			s := system(t, rows...)
			s.Value(n)
			s.Solve(n)
			s.Value(n)
			s.Parts()
			s.Cut(n)
			s.Vars()
			s.Solve(n)
			s.Add(linear.Row{})
			s.Add(resty(t, n))
			for _, m := range odd {
				simplex.Shows(read(t, rows...), []api.Part{{Row: n, Mult: "1"}, {Row: m, Mult: "1/3"}})
			}
			simplex.Shows(nil, nil)
		}
	}
}
