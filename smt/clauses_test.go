package smt_test

import (
	"slices"
	"strconv"
	"strings"
	"testing"

	"surety/api"
	"surety/smt"
	"surety/theory"
)

// coded: a formula's clauses, which have what the chapter says at first sight: no more variables than a + c, each atom once, literals of variables alone.
func coded(t testing.TB, tree api.Form) smt.Coded {
	t.Helper()
	c, err := smt.Clauses(tree)
	if err != api.OK {
		t.Fatalf("%s: error %d", brief(tree), err)
	}
	atoms := unlikeAtoms(tree)
	if c.Vars > len(atoms)+joints(tree) || c.Vars > api.MaxVars || len(c.Clauses) > api.MaxClauses/2 {
		t.Fatalf("%s: %d variables, %d clauses; %d atoms and %d joints", brief(tree), c.Vars, len(c.Clauses), len(atoms), joints(tree))
	}
	if len(c.Atoms) != len(atoms) {
		t.Fatalf("%s: %d atoms; want %d", brief(tree), len(c.Atoms), len(atoms))
	}
	var vars, places []int
	for _, atom := range c.Atoms {
		vars = append(vars, atom.Var)
		places = append(places, at(atoms, atom.Form))
		if atom.Var < 1 || atom.Var > c.Vars {
			t.Fatalf("%s: the atom %s has the variable %d of %d", brief(tree), brief(atom.Form), atom.Var, c.Vars)
		}
	}
	for _, l := range [][]int{vars, places} {
		slices.Sort(l)
		if len(slices.Compact(l)) != len(atoms) || slices.Contains(l, -1) {
			t.Fatalf("%s: the atoms are %v", brief(tree), c.Atoms)
		}
	}
	for _, clause := range c.Clauses {
		for _, l := range clause {
			if l == 0 || l < -c.Vars || l > c.Vars || len(clause) > api.MaxVars {
				t.Fatalf("%s: the clause %v", brief(tree), clause)
			}
		}
	}
	return c
}

// wantSame: at every truth of the atoms, the other variables can be chosen so that all clauses hold just if the formula does. All of them are tried.
func wantSame(t testing.TB, tree api.Form) {
	t.Helper()
	c := coded(t, tree)
	others := c.Vars - len(c.Atoms)
	if c.Vars > 16 {
		t.Fatalf("%s: too many variables to try all", brief(tree))
	}
	isAtoms := make([]bool, c.Vars+1)
	for _, atom := range c.Atoms {
		isAtoms[atom.Var] = true
	}
	for bits := range 1 << len(c.Atoms) {
		truth := make([]bool, c.Vars+1)
		for i, atom := range c.Atoms {
			truth[atom.Var] = bits>>i&1 == 1
		}
		want := holds(tree, func(atom api.Form) bool {
			place := slices.IndexFunc(c.Atoms, func(other smt.Atom) bool { return alike(other.Form, atom) })
			return truth[c.Atoms[place].Var]
		})
		got := false
		for more := 0; more < 1<<others && !got; more++ {
			k := 0
			for i := 1; i <= c.Vars; i++ {
				if !isAtoms[i] {
					truth[i] = more>>k&1 == 1
					k++
				}
			}
			got = fulfils(truth, c.Clauses)
		}
		if got != want {
			t.Fatalf("%s: with the atoms %b of %v the clauses %v hold: %t; want %t", brief(tree), bits, c.Atoms, c.Clauses, got, want)
		}
	}
}

func fulfils(truth []bool, clauses [][]int) bool {
	return !slices.ContainsFunc(clauses, func(clause []int) bool {
		return !slices.ContainsFunc(clause, func(l int) bool { return truth[max(l, -l)] == (l > 0) })
	})
}

// edges: small formulas of all kinds.
func edges() []api.Form {
	l := list(p(), not(p()), not(not(p())), not(not(not(p()))), and(), or(), not(and()), not(or()), and(p()), or(p()), and(and(p())), or(or(p()), or(q())), and(or()), or(and()), and(and(), p()), and(or(), p()), or(and(), p()), or(or(), p()), imp(and(), p()), imp(p(), or()), imp(or(), or()), iff(and(), p()), iff(or(), p()), iff(and(), or()), iff(or(), or()))
	l = append(l, imp(p(), p()), iff(p(), p()), imp(p(), not(p())), imp(not(p()), p()), iff(p(), not(p())), iff(not(p()), not(p())), and(p(), not(p())), or(p(), not(p())), and(p(), p(), p()), or(p(), p(), p()), and(p(), q()), or(p(), q()), imp(p(), q()), iff(p(), q()), iff(not(p()), q()), not(imp(p(), q())), not(iff(p(), q())))
	l = append(l, and(or(p(), q()), or(p(), q())), iff(or(p(), q()), or(q(), p())), imp(and(p(), q()), and(p(), q())), iff(and(p(), q()), and(p(), q())), iff(iff(p(), q()), iff(q(), p())), iff(iff(p(), q()), not(iff(p(), q()))), and(or(p(), q()), not(p())), and(imp(p(), q()), imp(q(), r()), p(), not(r())))
	l = append(l, le(x(), y()), not(eq(x(), y())), and(le(x(), y()), le(y(), x())), or(le(x(), y()), not(le(x(), y()))), and(le(x(), y()), eq(x(), y())), iff(eq(x(), y()), eq(y(), x())), and(p(), le(v("p"), app("p"))), example())
	return l
}

// P9.1: clauses of small formulas, held against a reckoning of the test's own.
func TestClausesEdges(t *testing.T) {
	for _, tree := range edges() {
		wantSame(t, tree)
		wantSame(t, not(tree))
		wantSame(t, and(tree, p()))
		wantSame(t, or(q(), tree))
		wantSame(t, iff(tree, r()))
	}
}

func TestClausesRandom(t *testing.T) {
	d := dice(5)
	sizes := 0
	for range 4000 {
		tree := d.pure(3, 3)
		if d.next(2) == 0 {
			tree = d.shared(2)
		}
		if len(unlikeAtoms(tree))+joints(tree) > 14 {
			continue
		}
		wantSame(t, tree)
		sizes += joints(tree)
	}
	if sizes < 5000 {
		t.Errorf("only %d joints", sizes)
	}
}

// P9.1: atoms that are alike have one variable, others have others.
func TestClausesAtoms(t *testing.T) {
	named := form(api.FLe, "one", x(), form(api.TAdd, "two", y()))
	other := form(api.FLe, "three", x(), form(api.TAdd, "four", y()))
	c := coded(t, and(named, form(api.FNot, "five", other), le(x(), add(y()))))
	if len(c.Atoms) != 1 {
		t.Errorf("the atoms are %v", c.Atoms)
	}
	nearly := list(le(x(), y()), le(y(), x()), eq(x(), y()), eq(y(), x()), boolean("x"), boolean("y"), boolean(""), le(app("x"), y()), le(app("x", y()), y()), le(app("x", y(), y()), y()), le(x(), add(y())), le(add(x(), num(0)), y()), le(num(1), num(1)), le(v("1"), num(1)), le(v("1"), v("1")), le(mul(1, x()), y()), le(mul(1, num(1)), y()), eq(app("f", v("x, y")), x()), eq(app("f", v("x"), v("y")), x()), eq(app("f(x)"), x()), eq(f(x()), x()), eq(v("f(x)"), x()), boolean("le(x, y)"), boolean("x)"), boolean("12(1:1:x()1:1:y())"))
	c = coded(t, or(append(slices.Clone(nearly), nearly...)...))
	if len(c.Atoms) != len(nearly) {
		t.Errorf("%d atoms; want %d", len(c.Atoms), len(nearly))
	}
	for i, a := range odd() {
		for _, b := range odd()[i+1:] {
			if c := coded(t, iff(boolean(a), boolean(b))); len(c.Atoms) != 2 {
				t.Errorf("%q and %q: the atoms are %v", a, b, c.Atoms)
			}
			if c := coded(t, iff(eq(v(a), app(b)), eq(v(b), app(a)))); len(c.Atoms) != 2 {
				t.Errorf("%q and %q: the atoms are %v", a, b, c.Atoms)
			}
		}
	}
}

func wantNoClauses(t *testing.T, what string, tree api.Form, want api.Errno) {
	t.Helper()
	c, err := smt.Clauses(tree)
	if err != want || c.Vars != 0 || len(c.Clauses)+len(c.Atoms) != 0 {
		t.Errorf("%s: Clauses: %d variables, %d clauses, %d atoms, error %d; want error %d", what, c.Vars, len(c.Clauses), len(c.Atoms), err, want)
	}
	a, err := smt.Solve(tree, enough)
	if err != want || a.Verdict != api.Unknown || a.Steps != 0 || len(a.Model.Bools)+len(a.Model.Vars)+len(a.Model.Funs)+len(a.Cert.Chains)+len(a.Cert.Lemmas)+len(a.Cert.Atoms) != 0 {
		t.Errorf("%s: Solve: %v, error %d; want error %d", what, a, err, want)
	}
	if err := smt.Check(tree, smt.Cert{}); err != want {
		t.Errorf("%s: Check: error %d; want %d", what, err, want)
	}
	if err := smt.Check(tree, smt.Cert{Atoms: make([]api.Form, api.MaxVars+1), Lemmas: []smt.Lemma{{Clause: []int{0}}}}); err != want {
		t.Errorf("%s: Check of a bad certificate: error %d; want %d", what, err, want)
	}
}

// faulty: what is no formula, and why.
func faulty() map[string]api.Errno {
	return map[string]api.Errno{"kind": api.ErrForm, "term": api.ErrForm, "no term": api.ErrForm, "args": api.ErrForm, "digit": api.ErrDigit, "big": api.ErrBig, "deep": api.ErrDeep, "long": api.ErrLong}
}

func faultyForm(what string) api.Form {
	switch what {
	case "kind":
		return form(77, "")
	case "term":
		return x()
	case "no term":
		return le(x(), p())
	case "args":
		return form(api.FNot, "", p(), q())
	case "digit":
		return eq(x(), form(api.TNum, "01"))
	case "big":
		return eq(x(), form(api.TNum, strings.Repeat("9", 400)))
	case "deep":
		return deep(api.MaxForm, func(t api.Form) api.Form { return not(t) }, p())
	}
	return or(repeated(api.MaxNodes, p())...)
}

// P9.1: layer 8's errors, alone, within others, and the first of several.
func TestClausesRefuses(t *testing.T) {
	for what, want := range faulty() {
		bad := faultyForm(what)
		if theory.Sound(bad) != want {
			t.Fatalf("%s: Sound: error %d; want %d", what, theory.Sound(bad), want)
		}
		wantNoClauses(t, what, bad, want)
		wantNoClauses(t, what+" behind another", and(p(), bad), want)
		wantNoClauses(t, what+" in an opposite", or(not(bad), q()), want)
		wantNoClauses(t, what+" and then another", and(bad, faultyForm("kind"), faultyForm("digit")), want)
	}
	wantNoClauses(t, "a fault behind too many atoms", and(append(booleans(api.MaxVars+1), form(77, ""))...), api.ErrForm)
	wantNoClauses(t, "nothing", api.Form{}, api.ErrForm)
}

// P9.1: as deep and as long as layer 8 takes it, and one more.
func TestClausesDeepAndLong(t *testing.T) {
	for _, wrap := range []func(api.Form) api.Form{
		func(t api.Form) api.Form { return not(t) },
		func(t api.Form) api.Form { return and(t) },
		func(t api.Form) api.Form { return or(t) },
		func(t api.Form) api.Form { return imp(p(), t) },
		func(t api.Form) api.Form { return iff(t, q()) },
		func(t api.Form) api.Form { return and(t, r(), or()) },
	} {
		coded(t, deep(api.MaxForm-1, wrap, p()))
		wantNoClauses(t, "deep", deep(api.MaxForm, wrap, p()), api.ErrDeep)
	}
	long := func(count int) api.Form { return le(x(), add(repeated(count-3, y())...)) }
	coded(t, long(api.MaxNodes))
	wantNoClauses(t, "long", long(api.MaxNodes+1), api.ErrLong)
	wide := func(count int) api.Form { // of so many parts, with few atoms and short clauses
		var parts []api.Form
		for i := 1; i < count; i += 100 {
			parts = append(parts, or(repeated(min(99, count-i-1), p())...))
		}
		return and(parts...)
	}
	c := coded(t, wide(api.MaxNodes))
	if len(c.Atoms) != 1 {
		t.Errorf("the atoms are %v", c.Atoms)
	}
	wantNoClauses(t, "long", wide(api.MaxNodes+1), api.ErrLong)
}

// P9.1: as many variables as there may be, and more.
func TestClausesMaxVars(t *testing.T) {
	coded(t, and(booleans(api.MaxVars-1)...))
	coded(t, or(booleans(api.MaxVars-1)...))
	var pairs []api.Form
	many := booleans(api.MaxVars)
	for i := 0; i < api.MaxVars/2-2; i += 2 {
		pairs = append(pairs, iff(many[i], many[i+1]), or(many[i], many[i+1]))
	}
	c := coded(t, and(pairs...))
	if c.Vars < api.MaxVars/2-2 {
		t.Errorf("%d variables", c.Vars)
	}
	more := booleans(api.MaxVars + 1)
	wantNoClauses(t, "too many atoms", and(more...), api.ErrLong)
	wantNoClauses(t, "too many atoms", or(not(and(more...)), p()), api.ErrLong)
	var statements []api.Form
	for i := range api.MaxVars + 1 {
		statements = append(statements, le(x(), num(i)))
	}
	wantNoClauses(t, "too many statements", or(statements...), api.ErrLong)
	halves := and(or(more[:api.MaxVars/2]...), or(more[api.MaxVars/2:]...))
	wantNoClauses(t, "too many atoms in two parts", halves, api.ErrLong)
	wantNoClauses(t, "and a fault behind them", and(halves, x()), api.ErrForm)
	for count := api.MaxVars/2 - 3; count <= api.MaxVars/2; count++ { // with what joins them there may be too many, or not
		tree := and(or(more[:count]...), or(more[count:2*count]...))
		if _, err := smt.Clauses(tree); err == api.OK || vars(tree) <= api.MaxVars {
			coded(t, tree)
		} else {
			wantNoClauses(t, "too many variables", tree, api.ErrLong)
		}
	}
}

// P9.1: a clause of too many literals, though there are few variables.
func TestClausesMaxLiterals(t *testing.T) {
	coded(t, or(repeated(api.MaxVars-1, p())...))
	coded(t, and(or(repeated(api.MaxVars-1, p())...), or(repeated(api.MaxVars-1, not(p()))...)))
	wantNoClauses(t, "too many literals", or(repeated(api.MaxVars+1, p())...), api.ErrLong)
	wantNoClauses(t, "too many literals within others", and(q(), iff(r(), or(repeated(api.MaxNodes-10, p())...))), api.ErrLong)
	var both []api.Form
	for i := range api.MaxVars/2 + 1 {
		both = append(both, boolean(strconv.Itoa(i)), not(boolean(strconv.Itoa(i))))
	}
	wantNoClauses(t, "variables and their opposites", or(both...), api.ErrLong)
}

// P9.1: formulas that take most clauses stay within what may be.
func TestClausesMany(t *testing.T) {
	many := booleans(90)
	var pairs []api.Form
	for i := range 90 {
		for j := range i {
			pairs = append(pairs, iff(many[i], many[j]))
		}
	}
	c := coded(t, and(pairs...))
	if len(c.Clauses) < len(pairs) {
		t.Errorf("%d clauses of %d pairs", len(c.Clauses), len(pairs))
	}
}
