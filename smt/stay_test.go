package smt_test

import (
	"fmt"
	"math"
	"slices"
	"testing"

	"surety/api"
	"surety/smt"
	"surety/theory"
)

// told: all that an answer tells.
func told(a any) string { return fmt.Sprintf("%#v", a) }

// cloneCert: as new memory.
func cloneCert(c smt.Cert) smt.Cert {
	var out smt.Cert
	for _, atom := range c.Atoms {
		out.Atoms = append(out.Atoms, clone(atom))
	}
	for _, lemma := range c.Lemmas {
		proof := lemma.Proof
		proof.Lits = slices.Clone(proof.Lits)
		proof.A, proof.B = clone(proof.A), clone(proof.B)
		proof.Steps = slices.Clone(proof.Steps)
		for i, s := range proof.Steps {
			proof.Steps[i] = theory.Step{Kind: s.Kind, Lits: slices.Clone(s.Lits), A: clone(s.A), B: clone(s.B)}
		}
		proof.Tree = cloneTree(proof.Tree)
		out.Lemmas = append(out.Lemmas, smt.Lemma{Clause: slices.Clone(lemma.Clause), Proof: proof})
	}
	for _, chain := range c.Chains {
		out.Chains = append(out.Chains, api.Chain{Clause: slices.Clone(chain.Clause), First: chain.First, Steps: slices.Clone(chain.Steps)})
	}
	return out
}

func cloneTree(b api.Branch) api.Branch {
	b.Parts = slices.Clone(b.Parts)
	b.Kids = slices.Clone(b.Kids)
	for i, kid := range b.Kids {
		b.Kids[i] = cloneTree(kid)
	}
	return b
}

// spoilt: a list whose parts and spare room are all changed.
func spoilt[T any](l []T, with T) {
	for i := range l {
		l[i] = with
	}
	_ = append(l, with)
}

func spoilForm(tree api.Form) {
	for _, arg := range tree.Args {
		spoilForm(arg)
	}
	spoilt(tree.Args, form(99, "spoilt"))
}

func spoilTree(b api.Branch) {
	for _, kid := range b.Kids {
		spoilTree(kid)
	}
	spoilt(b.Parts, api.Part{Row: 77, Mult: "x"})
	spoilt(b.Kids, api.Branch{Var: -1})
}

func spoilProof(p theory.Proof) {
	spoilt(p.Lits, -77)
	spoilForm(p.A)
	spoilForm(p.B)
	for _, s := range p.Steps {
		spoilt(s.Lits, -77)
		spoilForm(s.A)
		spoilForm(s.B)
	}
	spoilt(p.Steps, theory.Step{Kind: 99})
	spoilTree(p.Tree)
}

func spoilCert(c smt.Cert) {
	for _, atom := range c.Atoms {
		spoilForm(atom)
	}
	spoilt(c.Atoms, form(99, "spoilt"))
	for _, lemma := range c.Lemmas {
		spoilt(lemma.Clause, 77)
		spoilProof(lemma.Proof)
	}
	spoilt(c.Lemmas, smt.Lemma{})
	for _, chain := range c.Chains {
		spoilt(chain.Clause, 77)
		spoilt(chain.Steps, api.Link{Clause: 77})
	}
	spoilt(c.Chains, api.Chain{})
}

func spoil(a smt.Answer) {
	spoilCert(a.Cert)
	for _, e := range a.Model.Funs {
		spoilt(e.Args, "spoilt")
	}
	spoilt(a.Model.Funs, entry("spoilt", "9"))
	spoilt(a.Model.Vars, value("spoilt", "9"))
	spoilt(a.Model.Bools, value("spoilt", "9"))
}

// roomy: a tree whose lists have spare room.
func roomy(tree api.Form) api.Form {
	out := api.Form{Kind: tree.Kind, Name: tree.Name, Args: make([]api.Form, 0, len(tree.Args)+2)}
	for _, arg := range tree.Args {
		out.Args = append(out.Args, roomy(arg))
	}
	return out
}

// whole: all that a tree is, with the spare room of its lists.
func wholeText(tree api.Form) string {
	out := show(tree)
	for _, arg := range tree.Args[:cap(tree.Args)] {
		out += wholeText(arg)
	}
	return out
}

// P2: the same formula has the same answer, whatever was changed in an answer ahead or in what was handed in; and that stays as it was, with its spare room.
func TestNothingIsShared(t *testing.T) {
	d := dice(23)
	trees := append(unsat(), satisfiable()...)
	for range 300 {
		trees = append(trees, and(d.shared(2), d.shared(2), d.shared(2), d.shared(2)))
	}
	var verdicts [3]int
	for _, tree := range trees {
		given := roomy(tree)
		before := wholeText(given)
		a, _ := smt.Solve(given, 1000)
		b, _ := smt.Solve(given, 1000)
		c, _ := smt.Clauses(given)
		again, _ := smt.Clauses(given)
		key := smt.Key(given)
		verdicts[a.Verdict]++
		first, firstClauses := told(a), told(c)
		spoil(a)
		spoilClauses(c)
		if told(b) != first || told(again) != firstClauses {
			t.Fatalf("%s became %s", first, told(b))
		}
		smt.Check(given, b.Cert)
		if told(b) != first || wholeText(given) != before {
			t.Fatalf("%s became %s, %s became %s", first, told(b), before, wholeText(given))
		}
		spoilForm(given)
		if told(b) != first || told(again) != firstClauses {
			t.Fatalf("%s became %s", first, told(b))
		}
		last, _ := smt.Solve(tree, 1000)
		lastClauses, _ := smt.Clauses(tree)
		if told(last) != first || told(lastClauses) != firstClauses || smt.Key(tree) != key {
			t.Fatalf("%s became %s", first, told(last))
		}
	}
	for verdict, count := range verdicts {
		if count == 0 {
			t.Errorf("no verdict %d", verdict)
		}
	}
}

func spoilClauses(c smt.Coded) {
	for _, clause := range c.Clauses {
		spoilt(clause, 77)
	}
	spoilt(c.Clauses, nil)
	for _, atom := range c.Atoms {
		spoilForm(atom.Form)
	}
	spoilt(c.Atoms, smt.Atom{Var: 77})
}

// P2: no two lists of one answer share memory: what is changed in one doesn't change another.
func TestListsOfOneAnswer(t *testing.T) {
	for _, tree := range unsat() {
		whole := fresh(t, tree)
		for i := range whole.Lemmas {
			c := fresh(t, tree)
			spoilt(c.Lemmas[i].Clause, 77)
			spoilProof(c.Lemmas[i].Proof)
			c.Lemmas[i] = whole.Lemmas[i]
			if told(c) != told(whole) {
				t.Fatalf("%s: a lemma shares memory", brief(tree))
			}
		}
		for i := range whole.Atoms {
			c := fresh(t, tree)
			spoilForm(c.Atoms[i])
			c.Atoms[i] = whole.Atoms[i]
			if told(c) != told(whole) {
				t.Fatalf("%s: a further atom shares memory", brief(tree))
			}
		}
		clauses := coded(t, tree)
		for i := range clauses.Clauses {
			c := coded(t, tree)
			spoilt(c.Clauses[i], 77)
			c.Clauses[i] = clauses.Clauses[i]
			if told(c) != told(clauses) {
				t.Fatalf("%s: a clause shares memory", brief(tree))
			}
		}
		for i := range clauses.Atoms {
			c := coded(t, tree)
			spoilForm(c.Atoms[i].Form)
			c.Atoms[i] = clauses.Atoms[i]
			if told(c) != told(clauses) {
				t.Fatalf("%s: an atom shares memory", brief(tree))
			}
		}
	}
}

// P2: Check changes nothing that it is given, whether it takes it or not.
func TestCheckChangesNothing(t *testing.T) {
	for _, tree := range unsat() {
		c := fresh(t, tree)
		for i := range c.Lemmas {
			c.Lemmas[i].Clause = append(make([]int, 0, 20), c.Lemmas[i].Clause...)
		}
		before := told(c)
		for _, other := range list(tree, example(), and()) {
			smt.Check(other, c)
			if told(c) != before {
				t.Fatalf("%s became %s", before, told(c))
			}
		}
	}
}

// P2, rule 3: refused calls change no later answer.
func TestRefusedCallsLeaveNothing(t *testing.T) {
	for _, tree := range list(example(), and(or(p(), q()), not(p())), endless()) {
		before := told(solve(t, tree, 300))
		smt.Solve(and(tree, form(77, "")), 300)
		smt.Clauses(and(tree, x()))
		smt.Check(tree, smt.Cert{Lemmas: []smt.Lemma{{Clause: []int{0}}}})
		smt.Follows(list(tree), form(77, ""), 300)
		if again := told(solve(t, tree, 300)); again != before {
			t.Errorf("%s became %s", before, again)
		}
	}
}

// anyTree: of any kinds, numbers of Args and names.
func (d *dice) anyTree(depth int) api.Form {
	out := form(d.next(24)-2, odd()[d.next(len(odd()))])
	if d.next(3) == 0 {
		out.Name = "7"
	}
	for depth > 0 && d.next(3) > 0 {
		out.Args = append(out.Args, d.anyTree(depth-1))
	}
	return out
}

// P1: nothing panics, whatever is handed in.
func TestNothingPanics(t *testing.T) {
	d := dice(29)
	numbers := []int{math.MinInt, math.MaxInt, -1, 0, 1, 2, 3, -2, 77, 4096, 4097}
	number := func() int { return numbers[d.next(len(numbers))] }
	for range 1500 {
		trees := list(d.anyTree(4), d.shared(2), and(d.anyTree(1), d.shared(1)), api.Form{}, unsat()[d.next(len(unsat()))])
		tree := trees[d.next(len(trees))]
		smt.Key(tree)
		smt.Clauses(tree)
		smt.Solve(tree, min(number(), 5000))
		smt.Follows(trees[:d.next(len(trees))], tree, min(number(), 5000))
		smt.Key(smt.And(smt.Not(tree), tree))
		c := smt.Cert{Atoms: trees[:d.next(3)]}
		for range d.next(4) {
			lemma := smt.Lemma{Clause: []int{1, -2, number()}[d.next(3):]}
			lemma.Proof = theory.Proof{Apart: d.next(2) == 0, Bad: number(), Lits: []int{number()}, A: trees[d.next(5)], B: x()}
			lemma.Proof.Steps = []theory.Step{{Kind: number(), Lits: []int{number()}, A: tree}}
			lemma.Proof.Tree = api.Branch{Leaf: d.next(2) == 0, Var: number(), Split: "0", Parts: []api.Part{{Row: number(), Mult: "1"}}, Kids: make([]api.Branch, d.next(3))}
			c.Lemmas = append(c.Lemmas, lemma)
		}
		for range d.next(4) {
			c.Chains = append(c.Chains, api.Chain{Clause: []int{number()}[d.next(2):], First: number(), Steps: []api.Link{{Clause: number(), Var: number()}}})
		}
		smt.Check(tree, c)
		smt.Check(example(), c)
	}
}

// P1: trees that are far too deep or too long are refused at once, though they take little memory.
func TestVastTrees(t *testing.T) {
	vast := deep(150, func(t api.Form) api.Form { return and(t, t) }, p())
	wantNoClauses(t, "vast", vast, api.ErrLong)
	if _, err := smt.Follows(list(vast), p(), 100); err != api.ErrLong {
		t.Errorf("Follows: error %d", err)
	}
	if _, err := smt.Follows(nil, vast, 100); err != api.ErrLong {
		t.Errorf("Follows: error %d", err)
	}
	deepest := deep(1<<16-4, func(t api.Form) api.Form { return not(t) }, p())
	wantNoClauses(t, "deepest", deepest, api.ErrDeep)
	if got := smt.Not(smt.And(deepest)); smt.Key(got) != smt.Key(not(and(deepest))) {
		t.Error("Not of a deep tree")
	}
}
