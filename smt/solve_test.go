package smt_test

import (
	"math"
	"math/big"
	"slices"
	"strconv"
	"testing"

	"surety/api"
)

// P9.2: the chapter's examples.
func TestExamples(t *testing.T) {
	a := solved(t, example(), api.Unsat)
	if len(a.Cert.Atoms) == 0 || len(a.Cert.Lemmas) == 0 {
		t.Errorf("the certificate is %v", a.Cert)
	}
	b := solved(t, and(or(p(), q()), not(p())), api.Sat)
	if !judged(q(), b.Model) || judged(p(), b.Model) {
		t.Errorf("the model is %v", b.Model)
	}
}

// chain: variables, each at most the next one (or, strictly, less).
func chain(count int, step func(a, b api.Form) api.Form) []api.Form {
	var l []api.Form
	for i := range count {
		l = append(l, step(numbered("x", i), numbered("x", i+1)))
	}
	return l
}

// branches: a number that grows by one or by two so many times, as conditions say, from 0 on.
func branches(count int) []api.Form {
	l := list(eq(numbered("x", 0), num(0)))
	for i := range count {
		c := le(numbered("c", i), num(0))
		one, two := add(numbered("x", i), num(1)), add(numbered("x", i), num(2))
		l = append(l, imp(c, eq(numbered("x", i+1), one)), imp(not(c), eq(numbered("x", i+1), two)))
	}
	return l
}

// writes: what a function is at two places behind so many writes of numbers above 0.
func writes(count int) []api.Form {
	var l []api.Form
	for i := range count {
		for _, place := range list(v("p"), v("q")) {
			before, behind := app("at", num(i), place), app("at", num(i+1), place)
			hit := eq(place, numbered("o", i))
			l = append(l, imp(hit, eq(behind, numbered("v", i))), imp(not(hit), eq(behind, before)))
		}
		l = append(l, less(num(0), numbered("v", i)))
	}
	return append(l, less(num(0), app("at", num(0), v("p"))), less(num(0), app("at", num(0), v("q"))))
}

// apart: so many variables from 1 to most, no two of them the same.
func apart(count, most int) api.Form {
	var l []api.Form
	for i := range count {
		l = append(l, le(num(1), numbered("x", i)), le(numbered("x", i), num(most)))
		for j := range i {
			l = append(l, not(eq(numbered("x", i), numbered("x", j))))
		}
	}
	return and(l...)
}

// joined: facts, and one more.
func joined(facts []api.Form, more ...api.Form) api.Form {
	return and(append(slices.Clone(facts), more...)...)
}

// unsat: formulas that are true in no model.
func unsat() []api.Form {
	cycle := chain(4, le)
	return list(
		or(), not(and()), and(p(), not(p())), and(or(p(), q()), or(p(), not(q())), or(not(p()), q()), or(not(p()), not(q()))), iff(p(), not(p())), not(imp(p(), p())), not(iff(iff(p(), q()), iff(q(), p()))),
		le(num(1), num(0)), not(eq(x(), x())), not(le(x(), x())), eq(x(), add(x(), num(1))), less(x(), x()), eq(mul(2, x()), num(1)), not(eq(add(x(), y()), add(y(), x()))), and(eq(x(), num(1)), eq(x(), num(2))),
		and(less(x(), y()), less(y(), x())), and(le(x(), y()), not(le(x(), y()))), and(eq(x(), y()), not(eq(f(x()), f(y())))), and(eq(x(), y()), not(eq(y(), x()))),
		and(or(eq(x(), num(1)), eq(x(), num(2))), le(x(), num(0))), and(imp(p(), less(x(), y())), imp(not(p()), less(x(), y())), le(y(), x())), and(iff(p(), le(x(), y())), iff(q(), le(y(), x())), not(p()), not(q())),
		joined(cycle, less(numbered("x", 4), numbered("x", 0))), joined(cycle, le(numbered("x", 4), numbered("x", 0)), not(eq(f(numbered("x", 1)), f(numbered("x", 3))))), joined(cycle, le(numbered("x", 4), numbered("x", 0)), not(eq(f(f(numbered("x", 1))), f(f(numbered("x", 3)))))),
		and(le(num(0), x()), le(x(), num(1)), eq(f(num(0)), f(num(1))), not(eq(f(x()), f(num(0))))), and(eq(add(x(), num(1)), add(y(), num(1))), not(eq(f(x()), f(y())))),
		joined(branches(4), less(num(8), numbered("x", 4))), joined(branches(4), less(numbered("x", 4), num(4))), joined(branches(3), eq(numbered("x", 3), num(7))), joined(writes(3), le(app("at", num(3), v("p")), num(0))), joined(writes(2), le(v("p"), v("q")), le(v("q"), v("p")), not(eq(app("at", num(2), v("p")), app("at", num(2), v("q"))))),
		apart(2, 1), apart(3, 2), apart(4, 3), and(or(endless(), p()), not(p()), p()), and(endless(), less(v("u"), v("w")), le(v("w"), v("u"))), and(le(tooBig(), x()), not(le(tooBig(), x()))), and(le(tooBig(), x()), or(p(), less(y(), y())), not(p())),
	)
}

// satisfiable: formulas that are true in some model.
func satisfiable() []api.Form {
	return list(
		and(), not(or()), p(), not(p()), or(p(), not(p())), iff(p(), q()), not(iff(p(), q())), and(p(), le(v("p"), app("p"))), imp(or(), or()),
		le(x(), y()), eq(f(x()), num(3)), not(eq(x(), y())), less(num(5), f(f(x()))), and(eq(f(x()), num(1)), eq(f(y()), num(2))), and(eq(v("f"), num(5)), eq(app("f"), num(6)), eq(app("f", v("f")), num(7)), boolean("f")), and(eq(app("f", x()), num(1)), eq(app("f", x(), x()), num(2))),
		and(or(eq(x(), num(1)), eq(x(), num(2))), not(eq(x(), num(1)))), and(iff(p(), le(x(), num(3))), not(p()), le(x(), num(4))), joined(branches(4), eq(numbered("x", 4), num(6))), joined(writes(3), eq(app("at", num(3), v("p")), num(9)), eq(app("at", num(3), v("q")), num(8))),
		apart(3, 3), apart(4, 4), or(endless(), eq(v("a"), num(3))), or(eq(v("a"), num(3)), endless()), imp(endless(), or()), or(and(le(x(), y()), le(y(), x()), less(f(x()), f(y()))), and(p(), eq(f(x()), add(f(y()), num(7))))),
		and(boolean(""), not(boolean(" ")), boolean("("), eq(v(""), num(1)), eq(v(" "), num(2)), eq(app("", v("")), num(3)), eq(app("", v(" ")), num(4))),
	)
}

// P9.2: verdicts of formulas, and of such in which they stand.
func TestVerdicts(t *testing.T) {
	for _, tree := range unsat() {
		solved(t, tree, api.Unsat)
		solved(t, and(r(), tree), api.Unsat)
		solved(t, or(tree, tree), api.Unsat)
		solved(t, or(and(tree, r()), and(not(r()), tree)), api.Unsat)
		solved(t, not(not(tree)), api.Unsat)
		solved(t, iff(tree, and()), api.Unsat)
	}
	for _, tree := range satisfiable() {
		solved(t, tree, api.Sat)
		solved(t, and(tree, r()), api.Sat)
		solved(t, or(or(), tree), api.Sat)
		solved(t, iff(and(), tree), api.Sat)
		solved(t, imp(r(), tree), api.Sat)
	}
}

// P9.2: where numbers are too large for True, nothing is told to be true.
func TestTooBig(t *testing.T) {
	for _, tree := range list(le(tooBig(), x()), not(le(tooBig(), x())), or(p(), eq(x(), tooBig())), and(p(), imp(q(), eq(f(tooBig()), x()))), or(and(), le(tooBig(), num(0)))) {
		solved(t, tree, api.Unknown)
	}
}

// P9.2: nothing shows it, and nothing fulfils it: so it is Unknown, in however many ways it might be true.
func TestEndless(t *testing.T) {
	solved(t, endless(), api.Unknown)
	solved(t, or(endless(), and(endless(), p()), and(p(), not(p()))), api.Unknown)
	solved(t, and(endless(), or(p(), q())), api.Unknown)
}

// P1, P9.2: what should be decided first may be too large for layer 8; then nothing more is known.
func TestRefusedSplit(t *testing.T) {
	huge := new(big.Int).Lsh(big.NewInt(1), api.MaxBits-1).String()
	up, down := form(api.TMul, huge, x()), form(api.TMul, "-"+huge, x())
	tree := and(le(x(), num(0)), le(num(0), x()), less(f(up), f(down)))
	for _, tree := range list(tree, or(p(), tree), and(or(p(), q()), tree)) {
		for _, budget := range []int{10, 1000, math.MaxInt} {
			if a := solve(t, tree, budget); a.Verdict == api.Unsat || a.Verdict == api.Sat && tree.Kind != api.FOr {
				t.Errorf("%s: verdict %d", brief(tree), a.Verdict)
			}
		}
	}
	solved(t, or(p(), tree), api.Sat)
}

// vars: a + c, by the test's own count.
func vars(tree api.Form) int { return len(unlikeAtoms(tree)) + joints(tree) }

// sure: the budget that the chapter names; false, if that is more than a number has room for.
func sure(tree api.Form) (int, bool) {
	n := vars(tree)
	if n > 30 {
		return 0, false
	}
	power := 1
	for range n {
		power *= 3
	}
	return (power+1)*(2*n+1) + 2, true
}

// tried: is a formula of Boolean variables alone true at some truth of them? All are tried.
func tried(tree api.Form) api.Verdict {
	atoms := unlikeAtoms(tree)
	for bits := range 1 << len(atoms) {
		if holds(tree, func(atom api.Form) bool { return bits>>at(atoms, atom)&1 == 1 }) {
			return api.Sat
		}
	}
	return api.Unsat
}

// renamed: a formula with other names of its Boolean variables.
func renamed(tree api.Form) api.Form {
	out := clone(tree)
	if tree.Kind == api.FBool {
		out.Name = "(" + tree.Name + ", "
	}
	for i, arg := range tree.Args {
		out.Args[i] = renamed(arg)
	}
	return out
}

// turned: a formula with what FAnd, FOr and FIff are of in another order.
func turned(tree api.Form) api.Form {
	out := clone(tree)
	for i, arg := range tree.Args {
		out.Args[i] = turned(arg)
	}
	if tree.Kind == api.FAnd || tree.Kind == api.FOr || tree.Kind == api.FIff {
		slices.Reverse(out.Args)
	}
	return out
}

// P9.2: formulas of Boolean variables alone, held against every truth of them, with the budget that the chapter names, are never left open; joined in another order, twice, and with other names they have the same verdict.
func TestBooleans(t *testing.T) {
	d := dice(7)
	var verdicts [3]int
	for range 3000 {
		parts := list()
		for range 1 + d.next(5) {
			parts = append(parts, d.pure(2, 3))
		}
		tree := and(parts...)
		want := tried(tree)
		for _, tree := range list(tree, turned(tree), renamed(tree), and(tree, tree), or(tree, turned(tree)), not(not(tree)), iff(tree, and()), imp(tree, or())) {
			budget, ok := sure(tree)
			if !ok {
				continue
			}
			verdict := want
			if tree.Kind == api.FImp {
				verdict = tried(tree)
			}
			a := solve(t, tree, budget)
			if a.Verdict != verdict {
				t.Fatalf("%s: verdict %d; want %d", brief(tree), a.Verdict, verdict)
			}
			verdicts[verdict]++
		}
	}
	if verdicts[api.Sat] < 1000 || verdicts[api.Unsat] < 1000 {
		t.Errorf("%v", verdicts)
	}
}

// P9.2: likewise, of formulas that need many choices: the same said in two orders, by FIff; and more pigeons than holes.
func TestHardBooleans(t *testing.T) {
	for count := 1; count <= 9; count++ {
		one, other := list(booleans(count)...), list(booleans(count)...)
		slices.Reverse(other)
		both := func(l []api.Form) api.Form {
			out := l[0]
			for _, b := range l[1:] {
				out = iff(out, b)
			}
			return out
		}
		tree := not(iff(both(one), both(other)))
		budget, ok := sure(tree)
		if !ok {
			budget = math.MaxInt
		}
		if a := solve(t, tree, budget); a.Verdict != api.Unsat {
			t.Errorf("%s: verdict %d", brief(tree), a.Verdict)
		}
	}
	for holes := 1; holes <= 5; holes++ {
		in := func(i, j int) api.Form { return boolean(strconv.Itoa(i) + " in " + strconv.Itoa(j)) }
		var l []api.Form
		for i := range holes + 1 {
			var some []api.Form
			for j := range holes {
				some = append(some, in(i, j))
				for k := range i {
					l = append(l, not(and(in(i, j), in(k, j))))
				}
			}
			l = append(l, or(some...))
		}
		solved(t, and(l...), api.Unsat)
		solved(t, and(l[:len(l)-1]...), api.Sat)
	}
}

// P9.2: formulas whose variables have bounds, held against all values of them.
func TestAgainstAllValues(t *testing.T) {
	d := dice(11)
	var bounds []api.Form
	for _, one := range list(x(), y(), z()) {
		bounds = append(bounds, le(num(-1), one), le(one, num(1)))
	}
	var verdicts [3]int
	for range 700 {
		tree := joined(bounds, d.linear(3))
		for range d.next(5) {
			tree = and(tree, d.linear(2))
		}
		want := api.Unsat
		for i := range 27 * 8 {
			m := api.Model{Vars: []api.Value{value("x", strconv.Itoa(i%3-1)), value("y", strconv.Itoa(i/3%3-1)), value("z", strconv.Itoa(i/9%3-1))}}
			for j := range 3 {
				m.Bools = append(m.Bools, value("b"+strconv.Itoa(j), strconv.Itoa(i/27>>j&1)))
			}
			if judged(tree, m) {
				want = api.Sat
				break
			}
		}
		a := solve(t, tree, enough)
		if a.Verdict != want {
			t.Fatalf("%s: verdict %d; want %d", brief(tree), a.Verdict, want)
		}
		verdicts[want]++
	}
	if verdicts[api.Sat] < 200 || verdicts[api.Unsat] < 150 {
		t.Errorf("%v", verdicts)
	}
}

// P9.2: formulas that are true in some model are never told to be true in none; nor are formulas with functions left open often.
func TestNeverUnsat(t *testing.T) {
	d := dice(13)
	var verdicts [3]int
	for range 600 {
		m := d.smallModel()
		var parts []api.Form
		for range 1 + d.next(12) {
			parts = append(parts, trueIn(d.shared(2), m))
		}
		tree := and(parts...)
		if !judged(tree, m) {
			t.Fatal("not true")
		}
		for _, budget := range []int{d.next(30), 20000} {
			a := solve(t, tree, budget)
			if a.Verdict == api.Unsat {
				t.Fatalf("%s: Unsat, but %v", brief(tree), m)
			}
			if budget == 20000 {
				verdicts[a.Verdict]++
			}
		}
	}
	if verdicts[api.Sat] < 550 {
		t.Errorf("%v", verdicts)
	}
}

// P9.2: likewise formulas of which nothing is known ahead; a verdict that is told is that of a formula that says the same.
func TestRandom(t *testing.T) {
	d := dice(17)
	var verdicts [3]int
	for range 500 {
		var parts []api.Form
		for range 2 + d.next(14) {
			parts = append(parts, d.shared(2))
		}
		tree := and(parts...)
		a := solve(t, tree, 20000)
		verdicts[a.Verdict]++
		for _, same := range list(turned(tree), and(tree, tree), not(or(not(tree), or())), iff(tree, and(parts[0], tree))) {
			b := solve(t, same, 20000)
			if same.Kind != api.FIff && a.Verdict != api.Unknown && b.Verdict != api.Unknown && a.Verdict != b.Verdict {
				t.Fatalf("%s: verdict %d, of %s %d", brief(tree), a.Verdict, brief(same), b.Verdict)
			}
		}
	}
	if verdicts[api.Sat] < 100 || verdicts[api.Unsat] < 100 || verdicts[api.Unknown] > 20 {
		t.Errorf("%v", verdicts)
	}
}

// P9.2: budgets of 0, below 0, of 1, and just enough.
func TestBudgets(t *testing.T) {
	for _, tree := range append(unsat(), satisfiable()...) {
		whole := solve(t, tree, enough)
		for _, budget := range []int{0, -1, -1000, math.MinInt, 1, 2, 3, 5, 10, 20, 50, 100} {
			a := solve(t, tree, budget)
			if a.Verdict != api.Unknown && a.Verdict != whole.Verdict {
				t.Errorf("%s: Solve(%d) is %d; want %d", brief(tree), budget, a.Verdict, whole.Verdict)
			}
			if a.Verdict == api.Unknown && budget >= whole.Steps {
				t.Errorf("%s: Solve(%d) is Unknown; %d steps were enough", brief(tree), budget, whole.Steps)
			}
		}
		for _, budget := range []int{whole.Steps, whole.Steps + 1, 2 * whole.Steps, math.MaxInt} {
			if a := solve(t, tree, budget); told(a) != told(whole) {
				t.Errorf("%s: with the budget %d %s; want %s", brief(tree), budget, told(a), told(whole))
			}
		}
		if whole.Steps > 0 && solve(t, tree, whole.Steps-1).Steps > whole.Steps-1 {
			t.Errorf("%s: too many steps", brief(tree))
		}
	}
	for _, tree := range list(or(p(), q()), and(or(p(), q()), or(not(p()), not(q()))), example()) {
		if a := solve(t, tree, 0); a.Verdict != api.Unknown {
			t.Errorf("%s: Solve(0) is %d", brief(tree), a.Verdict)
		}
	}
}

// P9.2: what facts alone show takes few steps, whatever else is said.
func TestFacts(t *testing.T) {
	facts := chain(40, func(a, b api.Form) api.Form { return eq(b, add(a, num(1))) })
	for i := range 40 {
		facts = append(facts, or(le(numbered("y", i), num(1)), le(numbered("z", i), numbered("y", i)), eq(numbered("z", i), numbered("x", i))))
	}
	facts = append(facts, eq(numbered("x", 0), num(1)))
	for _, goal := range list(eq(numbered("x", 40), num(41)), le(numbered("x", 40), num(41)), less(num(0), numbered("x", 40)), not(eq(f(numbered("x", 40)), add(f(num(41)), num(1))))) {
		if a := solve(t, joined(facts, not(goal)), 400); a.Verdict != api.Unsat {
			t.Errorf("%s: verdict %d, %d steps", brief(goal), a.Verdict, a.Steps)
		}
	}
}

// P9.2: what needn't hold takes few steps.
func TestNeedless(t *testing.T) {
	l := list(not(p()))
	for i := range 30 {
		a, b, c := numbered("a", i), numbered("b", i), numbered("c", i)
		l = append(l, imp(p(), and(le(mul(2, b), a), le(a, mul(2, b)), le(add(mul(2, c), num(1)), a), le(a, add(mul(2, c), num(1))))))
	}
	if a := solve(t, and(l...), 400); a.Verdict != api.Sat {
		t.Errorf("verdict %d, %d steps", a.Verdict, a.Steps)
	}
}

// filled: a formula with Boolean variables beside it, so that it has so many variables.
func filled(t *testing.T, l []api.Form, count int) api.Form {
	t.Helper()
	tree := and(append(slices.Clone(l), booleans(count-1-len(unlikeAtoms(and(l...))))...)...)
	if c := coded(t, tree); c.Vars != count {
		t.Fatalf("%d variables; want %d", c.Vars, count)
	}
	return tree
}

// P9.2: where there is no room for a further atom, it is Unknown.
func TestNoRoom(t *testing.T) {
	parts := example().Args
	if a := solved(t, filled(t, parts, api.MaxVars-1), api.Unsat); len(a.Cert.Atoms) != 1 {
		t.Errorf("%d further atoms", len(a.Cert.Atoms))
	}
	solved(t, filled(t, parts, api.MaxVars), api.Unknown)
	solved(t, filled(t, list(le(x(), num(3)), le(num(4), x())), api.MaxVars), api.Unsat)
	solved(t, filled(t, list(le(x(), num(3)), le(num(3), x())), api.MaxVars), api.Sat)
	long := le(x(), add(repeated(api.MaxNodes-4, num(1))...))
	solved(t, not(long), api.Sat)
}

// P9.2: long formulas.
func TestLong(t *testing.T) {
	solved(t, joined(chain(1000, le)), api.Sat)
	solved(t, joined(chain(1000, le), less(numbered("x", 1000), numbered("x", 0))), api.Unsat)
	solved(t, joined(chain(2000, eq), not(eq(f(numbered("x", 2000)), f(numbered("x", 0))))), api.Unsat)
	var l []api.Form
	for i := range 700 {
		l = append(l, or(le(numbered("x", i), num(3)), le(num(i), numbered("x", i+1)), boolean(strconv.Itoa(i))))
	}
	solved(t, and(l...), api.Sat)
	solved(t, deep(api.MaxForm-1, func(t api.Form) api.Form { return iff(t, q()) }, p()), api.Sat)
	solved(t, deep(api.MaxForm-3, func(t api.Form) api.Form { return and(t, p()) }, or(q(), not(p()))), api.Sat)
	solved(t, and(deep(api.MaxForm-3, func(t api.Form) api.Form { return imp(p(), t) }, q()), p(), not(q())), api.Unsat)
}

// P9.2: the model has each Boolean variable's value, whatever other names there are.
func TestModelNames(t *testing.T) {
	for i, a := range odd() {
		for _, b := range odd()[i+1:] {
			tree := and(boolean(a), not(boolean(b)), eq(v(a), num(1)), eq(v(b), num(2)), eq(app(a), num(3)), eq(app(b), num(4)), eq(app(a, v(a)), num(5)), eq(app(b, v(a)), num(6)))
			solved(t, tree, api.Sat)
		}
	}
}
