package smt_test

import (
	"math"
	"slices"
	"testing"

	"surety/api"
	"surety/sat"
	"surety/smt"
	"surety/theory"
)

func wantCheck(t *testing.T, what string, tree api.Form, c smt.Cert, want api.Errno) {
	t.Helper()
	if got := smt.Check(tree, c); got != want {
		t.Errorf("%s: Check: error %d; want %d", what, got, want)
	}
}

func wantNoCheck(t *testing.T, what string, tree api.Form, c smt.Cert) {
	t.Helper()
	if smt.Check(tree, c) == api.OK {
		t.Errorf("%s: %s: Check takes %v", what, brief(tree), c)
	}
}

// fresh: the certificate of a formula, as new memory.
func fresh(t testing.TB, tree api.Form) smt.Cert {
	t.Helper()
	return solved(t, tree, api.Unsat).Cert
}

// refutation: chains for clauses that have no model.
func refutation(t testing.TB, vars int, clauses [][]int) []api.Chain {
	t.Helper()
	s, err := sat.New(vars)
	if err != api.OK {
		t.Fatal(err)
	}
	for _, clause := range clauses {
		if _, err := s.Add(clause...); err != api.OK {
			t.Fatal(err)
		}
	}
	if s.Solve(enough) != api.Unsat {
		t.Fatalf("%v has a model", clauses)
	}
	return s.Proof()
}

// variableOf: the one that a formula's clauses have for an atom.
func variableOf(t testing.TB, tree, atom api.Form) int {
	t.Helper()
	c := coded(t, tree)
	place := slices.IndexFunc(c.Atoms, func(other smt.Atom) bool { return alike(other.Form, atom) })
	if place < 0 {
		t.Fatalf("%s has no atom %s", brief(tree), brief(atom))
	}
	return c.Atoms[place].Var
}

// certified: further atoms, lemmas, and chains for them that layer 4 finds.
func certified(t testing.TB, tree api.Form, atoms []api.Form, lemmas ...smt.Lemma) smt.Cert {
	t.Helper()
	c := coded(t, tree)
	clauses := c.Clauses
	for _, lemma := range lemmas {
		clauses = append(clauses, lemma.Clause)
	}
	return smt.Cert{Atoms: atoms, Lemmas: lemmas, Chains: refutation(t, c.Vars+len(atoms), clauses)}
}

// moved: chains in which so many clauses more stand ahead of the place from.
func moved(chains []api.Chain, from, by int) []api.Chain {
	turn := func(place int) int {
		if place >= from {
			return place + by
		}
		return place
	}
	var out []api.Chain
	for _, c := range chains {
		next := api.Chain{Clause: c.Clause, First: turn(c.First)}
		for _, l := range c.Steps {
			next.Steps = append(next.Steps, api.Link{Clause: turn(l.Clause), Var: l.Var})
		}
		out = append(out, next)
	}
	return out
}

// sameApart: a proof that A and B are the same by the literals at some places, and that the one at bad says that they aren't.
func sameApart(bad int, a, b api.Form, places ...int) theory.Proof {
	return theory.Proof{Apart: true, Bad: bad, A: a, B: b, Lits: places}
}

// lessRows: a proof by rows of FLe literals and opposites of such, each taken once.
func lessRows(count int) theory.Proof {
	p := theory.Proof{Tree: api.Branch{Leaf: true}}
	for i := range count {
		p.Steps = append(p.Steps, theory.Step{Kind: theory.OfLess, Lits: []int{i}})
		p.Tree.Parts = append(p.Tree.Parts, api.Part{Row: i, Mult: "1"})
	}
	return p
}

// P9.3: certificates made by hand, with and without further atoms.
func TestCheckByHand(t *testing.T) {
	tree := and(or(le(x(), num(0)), le(x(), num(1))), le(num(2), x()))
	a, b, c := variableOf(t, tree, le(x(), num(0))), variableOf(t, tree, le(x(), num(1))), variableOf(t, tree, le(num(2), x()))
	first, second := smt.Lemma{Clause: []int{-a, -c}, Proof: lessRows(2)}, smt.Lemma{Clause: []int{-c, -b}, Proof: lessRows(2)}
	wantCheck(t, "two lemmas", tree, certified(t, tree, nil, first, second), api.OK)
	wantCheck(t, "in the other order", tree, certified(t, tree, nil, second, first), api.OK)
	wantCheck(t, "one of them twice", tree, certified(t, tree, nil, first, second, first), api.OK)
	wantCheck(t, "no lemma at all", and(p(), not(p())), certified(t, and(p(), not(p())), nil), api.OK)

	example := example()
	l, m, n := variableOf(t, example, le(x(), y())), variableOf(t, example, le(y(), x())), variableOf(t, example, eq(f(x()), f(y())))
	further := coded(t, example).Vars + 1
	lemmas := []smt.Lemma{
		{Clause: []int{-l, -m, further}, Proof: theory.Proof{Steps: []theory.Step{{Kind: theory.OfApart, Lits: []int{0, 2}}, {Kind: theory.OfLess, Lits: []int{1}}}, Tree: api.Branch{Leaf: true, Parts: []api.Part{{Row: 0, Mult: "1"}, {Row: 1, Mult: "1"}}}}},
		{Clause: []int{-further, n}, Proof: sameApart(1, f(x()), f(y()), 0)},
	}
	whole := certified(t, example, list(eq(x(), y())), lemmas...)
	wantCheck(t, "a further atom", example, whole, api.OK)
	wantCheck(t, "more further atoms than are needed", example, certified(t, example, list(eq(x(), y()), le(z(), z()), eq(x(), y())), lemmas...), api.OK)
	wantCheck(t, "one that is no atom, but isn't needed", example, certified(t, example, list(eq(x(), y()), and(), form(77, "")), lemmas...), api.OK)
	wantNoCheck(t, "another further atom", example, smt.Cert{Atoms: list(eq(x(), z())), Lemmas: whole.Lemmas, Chains: whole.Chains})
	wantNoCheck(t, "its opposite's sign", example, smt.Cert{Atoms: list(not(eq(x(), y()))), Lemmas: whole.Lemmas, Chains: whole.Chains})
}

// P9.3: a lemma may have more literals than its proof names, of Boolean variables too.
func TestCheckWeakLemmas(t *testing.T) {
	tree := and(eq(x(), num(1)), eq(x(), num(2)), p(), not(q()))
	a, b := variableOf(t, tree, eq(x(), num(1))), variableOf(t, tree, eq(x(), num(2)))
	bools := []int{-variableOf(t, tree, p()), variableOf(t, tree, q())}
	numbers := sameApart(-1, num(1), num(2), 0, 1)
	for _, clause := range [][]int{{-a, -b}, {-a, -b, bools[0]}, {-a, -b, bools[1], bools[0]}, {-a, -b, -a, -b}} {
		wantCheck(t, "a weak lemma", tree, certified(t, tree, nil, smt.Lemma{Clause: clause, Proof: numbers}), api.OK)
	}
	turned := []int{bools[0], -b, bools[1], -a}
	wantCheck(t, "in another order", tree, certified(t, tree, nil, smt.Lemma{Clause: turned, Proof: sameApart(-1, num(1), num(2), 3, 1)}), api.OK)
	wantNoCheck(t, "the proof has the old order", tree, certified(t, tree, nil, smt.Lemma{Clause: turned, Proof: numbers}))
	named := sameApart(-1, num(1), num(2), 0, 1, 2)
	wantNoCheck(t, "the proof names a Boolean variable", tree, certified(t, tree, nil, smt.Lemma{Clause: []int{-a, -b, bools[0]}, Proof: named}))
	wantNoCheck(t, "a lemma of no literals", tree, certified(t, tree, nil, smt.Lemma{Proof: numbers}))
	wantNoCheck(t, "the opposite of a literal", tree, certified(t, tree, nil, smt.Lemma{Clause: []int{-a, -b}, Proof: numbers}, smt.Lemma{Clause: []int{a, -b}, Proof: numbers}))
}

// P9.3: too much of something, ahead of all but the formula's error.
func TestCheckTooLong(t *testing.T) {
	tree := example()
	c := fresh(t, tree)
	count := len(coded(t, tree).Clauses)
	spare := func(have, most int) []api.Form { return repeated(most-have, eq(z(), z())) }
	full := smt.Cert{Atoms: append(slices.Clone(c.Atoms), spare(len(c.Atoms), api.MaxVars)...), Lemmas: c.Lemmas, Chains: c.Chains}
	wantCheck(t, "as many further atoms as may be", tree, full, api.OK)
	full.Atoms = append(full.Atoms, eq(z(), z()))
	wantCheck(t, "one more", tree, full, api.ErrLong)
	full.Lemmas = []smt.Lemma{{Clause: []int{0}}}
	wantCheck(t, "one more, and a bad lemma", tree, full, api.ErrLong)

	easy := smt.Lemma{Clause: []int{-variableOf(t, tree, le(x(), y())), variableOf(t, tree, le(x(), y()))}, Proof: lessRows(2)}
	more := api.MaxClauses - len(c.Lemmas)
	place := count + len(c.Lemmas)
	full = smt.Cert{Atoms: c.Atoms, Lemmas: append(slices.Clone(c.Lemmas), slices.Repeat([]smt.Lemma{easy}, more)...), Chains: moved(c.Chains, place, more)}
	wantCheck(t, "as many lemmas as may be", tree, full, api.OK)
	full.Lemmas = append(full.Lemmas, smt.Lemma{Clause: []int{0}})
	wantCheck(t, "one more", tree, full, api.ErrLong)

	more = api.MaxClauses - len(c.Chains)
	idle := api.Chain{Clause: coded(t, tree).Clauses[0], First: 0}
	full = smt.Cert{Atoms: c.Atoms, Lemmas: c.Lemmas, Chains: append(slices.Repeat([]api.Chain{idle}, more), moved(c.Chains, place, more)...)}
	wantCheck(t, "as many chains as may be", tree, full, api.OK)
	full.Chains = append(full.Chains, idle)
	wantCheck(t, "one more", tree, full, api.ErrLong)
	full.Lemmas = []smt.Lemma{{Clause: []int{0}}}
	wantCheck(t, "one more, and a bad lemma", tree, full, api.ErrLong)
}

// P9.3: literals that are no atom's.
func TestCheckLiterals(t *testing.T) {
	tree := example()
	vars := coded(t, tree).Vars
	atoms := atomsOf(coded(t, tree), smt.Cert{})
	joint := 0
	for i := 1; i <= vars; i++ {
		if _, ok := atoms[i]; !ok {
			joint = i
		}
	}
	if joint < 1 {
		t.Fatal("all variables are atoms'")
	}
	further := len(fresh(t, tree).Atoms)
	for _, l := range []int{0, joint, -joint, vars + further + 1, -(vars + further + 1), api.MaxVars, api.MaxVars + 1, math.MaxInt, math.MinInt, math.MinInt + 1} {
		for place := range fresh(t, tree).Lemmas {
			c := fresh(t, tree)
			c.Lemmas[place].Clause = append(c.Lemmas[place].Clause, l)
			wantCheck(t, "behind others", tree, c, api.ErrLit)
			c.Lemmas[place].Proof = theory.Proof{}
			wantCheck(t, "with no proof", tree, c, api.ErrLit)
			c.Lemmas[place].Clause = []int{l}
			wantCheck(t, "alone", tree, c, api.ErrLit)
			c.Chains = nil
			wantCheck(t, "without chains", tree, c, api.ErrLit)
			if place > 0 {
				c.Lemmas[place-1].Proof = theory.Proof{}
				want := theory.Shows(denied(t, atomsOf(coded(t, tree), c), c.Lemmas[place-1].Clause), theory.Proof{})
				wantCheck(t, "behind a lemma that isn't shown", tree, c, want)
			}
		}
	}
}

// P9.3: further atoms that are none.
func TestCheckFurtherAtoms(t *testing.T) {
	tree := example()
	for _, bad := range list(p(), and(), not(eq(x(), y())), or(eq(x(), y())), iff(eq(x(), y()), and()), x(), form(77, ""), api.Form{}) {
		c := fresh(t, tree)
		c.Atoms[0] = bad
		wantCheck(t, "a further atom that is none", tree, c, api.ErrLit)
	}
	for _, bad := range list(form(api.FEq, "", x()), form(api.FEq, ""), eq(x(), p()), eq(x(), form(api.TNum, "x")), le(x(), y()), eq(x(), z())) {
		c := fresh(t, tree)
		c.Atoms[0] = bad
		wantNoCheck(t, "a further atom that isn't the right one", tree, c)
	}
	c := fresh(t, tree)
	c.Atoms[0] = form(api.FEq, "another name", x(), y())
	wantCheck(t, "another name", tree, c, api.OK)
	c.Atoms = nil
	wantCheck(t, "no further atoms", tree, c, api.ErrLit)
}

// P9.3: lemmas that their proofs don't show: layer 8's error.
func TestCheckProofs(t *testing.T) {
	changes := map[string]func(*smt.Lemma){
		"no proof":               func(l *smt.Lemma) { l.Proof = theory.Proof{} },
		"another order":          func(l *smt.Lemma) { slices.Reverse(l.Clause) },
		"without a literal":      func(l *smt.Lemma) { l.Clause = l.Clause[1:] },
		"an opposite":            func(l *smt.Lemma) { l.Clause[0] = -l.Clause[0] },
		"no literal":             func(l *smt.Lemma) { l.Clause = nil },
		"one more ahead":         func(l *smt.Lemma) { l.Clause = append([]int{1}, l.Clause...) },
		"another lemma's proof":  func(l *smt.Lemma) { l.Proof = sameApart(1, f(v("u")), f(v("w")), 0) },
		"one more step":          func(l *smt.Lemma) { l.Proof.Steps = append(l.Proof.Steps, theory.Step{}) },
		"what is apart are rows": func(l *smt.Lemma) { l.Proof.Apart = !l.Proof.Apart },
	}
	for what, change := range changes {
		bad := 0
		for _, tree := range unsat() {
			whole := fresh(t, tree)
			for place := range whole.Lemmas {
				c := cloneCert(whole)
				change(&c.Lemmas[place])
				clause := c.Lemmas[place].Clause
				if slices.Contains(clause, 1) && !isAtom(atomsOf(coded(t, tree), c)[1]) {
					continue
				}
				want := theory.Shows(denied(t, atomsOf(coded(t, tree), c), clause), c.Lemmas[place].Proof)
				if want != api.OK {
					wantCheck(t, what, tree, c, want)
					bad++
				}
			}
		}
		if bad == 0 {
			t.Errorf("%s: all are shown", what)
		}
	}
}

// P9.3: chains that show nothing: layer 4's error.
func TestCheckChains(t *testing.T) {
	for _, tree := range unsat() {
		whole := fresh(t, tree)
		places := len(coded(t, tree).Clauses) + len(whole.Lemmas)
		last := len(whole.Chains) - 1
		for _, bad := range []int{-1, math.MinInt, math.MaxInt, places + last, places + last + 1} {
			c := cloneCert(whole)
			c.Chains[last].First = bad
			wantCheck(t, "no place", tree, c, api.ErrProof)
			c = cloneCert(whole)
			c.Chains[0].Steps = append(c.Chains[0].Steps, api.Link{Clause: bad, Var: 1})
			wantCheck(t, "no place to resolve with", tree, c, api.ErrProof)
		}
		c := cloneCert(whole)
		c.Chains[last].Clause = append(c.Chains[last].Clause, 1)
		wantCheck(t, "another clause", tree, c, api.ErrProof)
		c = cloneCert(whole)
		c.Chains = append(c.Chains, api.Chain{Clause: coded(t, tree).Clauses[0], First: 0})
		wantCheck(t, "something behind the empty clause", tree, c, api.ErrProof)
		c.Chains = c.Chains[:last]
		wantCheck(t, "without the last one", tree, c, api.ErrProof)
		c.Chains = nil
		wantCheck(t, "without chains", tree, c, api.ErrProof)
		if len(whole.Lemmas) > 0 {
			whole.Lemmas = nil
			wantCheck(t, "without lemmas", tree, whole, api.ErrProof)
		}
	}
	wantCheck(t, "nothing", and(), smt.Cert{}, api.ErrProof)
	wantCheck(t, "nothing", or(), smt.Cert{}, api.ErrProof)
}

// P9.3: a lemma of a further atom's variable that layer 4 has no room for.
func TestCheckNoRoom(t *testing.T) {
	tree := filled(t, list(eq(x(), num(1)), eq(x(), num(2))), api.MaxVars)
	c := fresh(t, tree)
	wantCheck(t, "as many variables as may be", tree, c, api.OK)
	c.Atoms = list(eq(y(), y()))
	c.Lemmas[0].Clause = append(c.Lemmas[0].Clause, api.MaxVars+1)
	wantCheck(t, "one more", tree, c, api.ErrLit)
}

// P9.3: what is true in some model has no certificate: neither others' nor these with something changed.
func TestCheckShowsNothingFalse(t *testing.T) {
	d := dice(19)
	var certs []smt.Cert
	for _, tree := range unsat() {
		certs = append(certs, fresh(t, tree))
	}
	for len(certs) < 120 {
		tree := and(d.shared(2), d.shared(2), d.shared(2), d.shared(1), d.shared(1), d.shared(1))
		if a := solve(t, tree, 5000); a.Verdict == api.Unsat {
			certs = append(certs, a.Cert)
		}
	}
	for _, tree := range satisfiable() {
		for _, c := range certs {
			wantNoCheck(t, "another's certificate", tree, c)
		}
	}
	refuted := 0
	for range 400 {
		m := d.smallModel()
		var parts []api.Form
		for range 1 + d.next(6) {
			parts = append(parts, trueIn(d.shared(2), m))
		}
		tree := and(parts...)
		clausesOf := coded(t, tree)
		for range 20 {
			c := d.changed(certs[d.next(len(certs))], clausesOf.Vars)
			wantNoCheck(t, "a changed certificate", tree, c)
			var clauses [][]int
			for _, lemma := range c.Lemmas {
				clauses = append(clauses, lemma.Clause)
			}
			// With chains that layer 4 finds, all hangs on the lemmas.
			if chains, ok := found(clausesOf, len(c.Atoms), clauses); ok {
				refuted++
				wantNoCheck(t, "changed lemmas", tree, smt.Cert{Atoms: c.Atoms, Lemmas: c.Lemmas, Chains: chains})
			}
		}
	}
	if refuted < 100 {
		t.Errorf("only %d have chains", refuted)
	}
}

// found: chains for clauses and lemmas, if they have no model.
func found(coded smt.Coded, further int, lemmas [][]int) ([]api.Chain, bool) {
	s, _ := sat.New(min(coded.Vars+further, api.MaxVars))
	for _, clause := range append(slices.Clone(coded.Clauses), lemmas...) {
		if _, err := s.Add(clause...); err != api.OK {
			return nil, false
		}
	}
	verdict := s.Solve(1000)
	return s.Proof(), verdict == api.Unsat
}

// changed: a certificate whose lemmas are about other variables here and there.
func (d *dice) changed(c smt.Cert, vars int) smt.Cert {
	out := smt.Cert{Atoms: slices.Clone(c.Atoms), Chains: c.Chains}
	if len(out.Atoms) > 0 && d.next(2) == 0 {
		out.Atoms[0] = eq(d.smallTerm(1), d.smallTerm(1))
	}
	for _, lemma := range c.Lemmas {
		clause := slices.Clone(lemma.Clause)
		for i := range clause {
			if d.next(3) == 0 {
				clause[i] = 1 + d.next(vars+len(out.Atoms))
			}
			if d.next(4) == 0 {
				clause[i] = -clause[i]
			}
		}
		out.Lemmas = append(out.Lemmas, smt.Lemma{Clause: clause, Proof: lemma.Proof})
	}
	return out
}
