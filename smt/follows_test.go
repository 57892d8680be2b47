package smt_test

import (
	"math"
	"slices"
	"testing"

	"surety/api"
	"surety/smt"
)

// follows: an answer that what it has bears out.
func follows(t testing.TB, facts []api.Form, goal api.Form, budget int) smt.Answer {
	t.Helper()
	a, err := smt.Follows(facts, goal, budget)
	if err != api.OK {
		t.Fatalf("%s from %s: error %d", brief(goal), brief(and(facts...)), err)
	}
	wantBorneOut(t, joined(facts, not(goal)), budget, a)
	return a
}

func wantFollows(t testing.TB, facts []api.Form, goal api.Form, want api.Verdict) {
	t.Helper()
	if a := follows(t, facts, goal, enough); a.Verdict != want {
		t.Errorf("%s from %s: verdict %d; want %d", brief(goal), brief(and(facts...)), a.Verdict, want)
	}
}

// P9.4: Not and And are those formulas, as new memory.
func TestNotAnd(t *testing.T) {
	d := dice(31)
	trees := append(pool()[:200], edges()...)
	for range 300 {
		trees = append(trees, d.shared(3), d.anyTree(3))
	}
	for i, tree := range trees {
		given := roomy(tree)
		other := roomy(trees[len(trees)-1-i])
		before := wholeText(given) + wholeText(other)
		opposite, both, one := smt.Not(given), smt.And(given, other), smt.And(given)
		want := []string{show(not(tree)), show(and(tree, other)), show(and(tree))}
		same := func() bool { return slices.Equal(want, []string{show(opposite), show(both), show(one)}) }
		if !same() {
			t.Fatalf("%s, %s, %s; want %v", show(opposite), show(both), show(one), want)
		}
		if wholeText(given)+wholeText(other) != before {
			t.Fatalf("%s was changed", before)
		}
		spoilForm(given)
		spoilForm(other)
		if !same() {
			t.Fatalf("%v: they share memory with what was handed in", want)
		}
		spoilForm(opposite)
		opposite = smt.Not(tree)
		if !same() {
			t.Fatalf("%v: they share memory with each other", want)
		}
	}
	if show(smt.And()) != show(and()) {
		t.Errorf("And of nothing is %s", show(smt.And()))
	}
	l := append(make([]api.Form, 0, 3), p(), q())
	smt.And(l...)
	if show(l[:3][2]) != show(api.Form{}) {
		t.Error("something stands behind what was handed in")
	}
}

// P9.4: what follows, and what doesn't.
func TestFollows(t *testing.T) {
	wantFollows(t, nil, and(), api.Unsat)
	wantFollows(t, nil, or(), api.Sat)
	wantFollows(t, nil, or(p(), not(p())), api.Unsat)
	wantFollows(t, nil, p(), api.Sat)
	wantFollows(t, nil, eq(add(x(), y()), add(y(), x())), api.Unsat)
	wantFollows(t, nil, not(and()), api.Sat)
	wantFollows(t, list(or()), or(), api.Unsat)
	wantFollows(t, list(and()), or(), api.Sat)
	for _, goal := range list(p(), le(x(), y()), eq(f(x()), num(2)), or(p(), le(x(), y())), iff(p(), q())) {
		wantFollows(t, list(q(), goal, r()), goal, api.Unsat)
		wantFollows(t, list(q(), not(goal)), goal, api.Sat)
		wantFollows(t, list(not(not(goal))), goal, api.Unsat)
		wantFollows(t, list(goal), not(goal), api.Sat)
		wantFollows(t, list(goal, not(goal)), or(), api.Unsat)
		wantFollows(t, nil, imp(goal, goal), api.Unsat)
	}
	wantFollows(t, list(le(x(), y()), le(y(), x())), eq(f(x()), f(y())), api.Unsat)
	wantFollows(t, list(le(x(), y())), eq(f(x()), f(y())), api.Sat)
	wantFollows(t, branches(4), le(numbered("x", 4), num(8)), api.Unsat)
	wantFollows(t, branches(4), le(numbered("x", 4), num(7)), api.Sat)
	wantFollows(t, writes(2), less(num(1), add(app("at", num(2), v("p")), app("at", num(2), v("q")))), api.Unsat)
	wantFollows(t, writes(2), less(num(2), add(app("at", num(2), v("p")), app("at", num(2), v("q")))), api.Sat)
	wantFollows(t, list(endless()), le(x(), y()), api.Unknown)
}

// P9.4: held against models of the facts: where it follows, the goal is true in all of them; where it doesn't, it isn't in one.
func TestFollowsModels(t *testing.T) {
	d := dice(37)
	var verdicts [3]int
	for range 250 {
		m := d.smallModel()
		var facts []api.Form
		for range d.next(7) {
			facts = append(facts, trueIn(d.shared(2), m))
		}
		goal := d.shared(2)
		if d.next(2) == 0 && len(facts) > 0 {
			goal = or(goal, facts[d.next(len(facts))])
		}
		a := follows(t, facts, goal, 20000)
		verdicts[a.Verdict]++
		switch a.Verdict {
		case api.Unsat:
			if !judged(goal, m) {
				t.Fatalf("%s from %s, but %v", brief(goal), brief(and(facts...)), m)
			}
			for range 30 {
				if other := d.smallModel(); judged(and(facts...), other) && !judged(goal, other) {
					t.Fatalf("%s from %s, but %v", brief(goal), brief(and(facts...)), other)
				}
			}
		case api.Sat:
			if !judged(and(facts...), a.Model) || judged(goal, a.Model) {
				t.Fatalf("%s from %s: the model is %v", brief(goal), brief(and(facts...)), a.Model)
			}
		}
	}
	if verdicts[api.Sat] < 50 || verdicts[api.Unsat] < 50 {
		t.Errorf("%v", verdicts)
	}
}

// P9.4: it is Solve of those formulas, with its errors, of the facts first.
func TestFollowsIsSolve(t *testing.T) {
	d := dice(41)
	for range 100 {
		facts := append(make([]api.Form, 0, 8), d.shared(2), d.shared(2), d.shared(2))
		goal := d.shared(2)
		for _, budget := range []int{0, -5, 7, 1000, math.MinInt} {
			before := show(and(facts[:4]...))
			a, err := smt.Follows(facts, goal, budget)
			b, again := smt.Solve(smt.And(append(slices.Clone(facts), smt.Not(goal))...), budget)
			if told(a) != told(b) || err != again {
				t.Fatalf("%s, error %d; Solve: %s, error %d", told(a), err, told(b), again)
			}
			if show(and(facts[:4]...)) != before {
				t.Fatal("something stands behind the facts")
			}
		}
	}
	for what, want := range faulty() {
		bad := faultyForm(what)
		for _, c := range []struct {
			facts []api.Form
			goal  api.Form
		}{{list(p(), bad), q()}, {list(p()), bad}, {nil, bad}, {list(bad), form(77, "")}, {list(bad, form(77, ""), eq(x(), form(api.TNum, "x"))), q()}} {
			a, err := smt.Follows(c.facts, c.goal, enough)
			if err != want || told(a) != told(smt.Answer{}) {
				t.Errorf("%s: %s, error %d; want error %d", what, told(a), err, want)
			}
		}
	}
	wrap := func(t api.Form) api.Form { return not(t) }
	follows(t, list(deep(api.MaxForm-2, wrap, p())), deep(api.MaxForm-3, wrap, q()), enough)
	if _, err := smt.Follows(list(deep(api.MaxForm-1, wrap, p())), q(), enough); err != api.ErrDeep {
		t.Errorf("a fact that is too deep: error %d", err)
	}
	if _, err := smt.Follows(nil, deep(api.MaxForm-2, wrap, p()), enough); err != api.ErrDeep {
		t.Errorf("a goal that is too deep: error %d", err)
	}
	if _, err := smt.Follows(booleans(api.MaxVars), boolean("more"), enough); err != api.ErrLong {
		t.Errorf("too many variables: error %d", err)
	}
}
