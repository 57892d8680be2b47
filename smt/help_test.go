package smt_test

import (
	"math/big"
	"slices"
	"strconv"
	"testing"

	"surety/api"
	"surety/sat"
	"surety/smt"
	"surety/theory"
)

// The tests hold the package against reckonings of their own and by the chapter's words; they know of it only what its exported calls tell.

// enough: a budget with which small formulas are seldom left open.
const enough = 100000

// dice is a row of numbers that is always the same.
type dice uint64

func (d *dice) next(below int) int {
	*d = *d*6364136223846793005 + 1442695040888963407
	return int(uint64(*d)>>33) % below
}

// number: from 0 less most to most.
func (d *dice) number(most int) int { return d.next(2*most+1) - most }

func form(kind int, name string, args ...api.Form) api.Form {
	return api.Form{Kind: kind, Name: name, Args: args}
}

func v(name string) api.Form                    { return form(api.TVar, name) }
func num(n int) api.Form                        { return form(api.TNum, strconv.Itoa(n)) }
func add(args ...api.Form) api.Form             { return form(api.TAdd, "", args...) }
func mul(by int, arg api.Form) api.Form         { return form(api.TMul, strconv.Itoa(by), arg) }
func app(fun string, args ...api.Form) api.Form { return form(api.TApp, fun, args...) }
func f(args ...api.Form) api.Form               { return app("f", args...) }
func g(args ...api.Form) api.Form               { return app("g", args...) }
func boolean(name string) api.Form              { return form(api.FBool, name) }
func le(a, b api.Form) api.Form                 { return form(api.FLe, "", a, b) }
func eq(a, b api.Form) api.Form                 { return form(api.FEq, "", a, b) }
func not(a api.Form) api.Form                   { return form(api.FNot, "", a) }
func less(a, b api.Form) api.Form               { return not(le(b, a)) }
func and(args ...api.Form) api.Form             { return form(api.FAnd, "", args...) }
func or(args ...api.Form) api.Form              { return form(api.FOr, "", args...) }
func imp(a, b api.Form) api.Form                { return form(api.FImp, "", a, b) }
func iff(a, b api.Form) api.Form                { return form(api.FIff, "", a, b) }
func list(l ...api.Form) []api.Form             { return l }
func value(name, text string) api.Value         { return api.Value{Name: name, Num: text} }
func x() api.Form                               { return v("x") }
func y() api.Form                               { return v("y") }
func z() api.Form                               { return v("z") }
func p() api.Form                               { return boolean("p") }
func q() api.Form                               { return boolean("q") }
func r() api.Form                               { return boolean("r") }
func numbered(name string, i int) api.Form      { return v(name + strconv.Itoa(i)) }
func entry(fun, text string, args ...string) api.Entry {
	return api.Entry{Fun: fun, Args: args, Num: text}
}

// booleans: so many Boolean variables, unlike each other.
func booleans(count int) []api.Form {
	var l []api.Form
	for i := range count {
		l = append(l, boolean("b"+strconv.Itoa(i)))
	}
	return l
}

func repeated(count int, part api.Form) []api.Form { return slices.Repeat(list(part), count) }

// deep: a part with so many others around it.
func deep(around int, wrap func(api.Form) api.Form, part api.Form) api.Form {
	for range around {
		part = wrap(part)
	}
	return part
}

// tooBig: a term that is more than the greatest number, whatever is in the model.
func tooBig() api.Form {
	huge := new(big.Int).Lsh(big.NewInt(1), api.MaxBits-1).String()
	return form(api.TMul, huge, form(api.TNum, huge))
}

// endless: what holds of no whole numbers, though no tree shows it, as nothing bounds them: an even number is an odd one.
func endless() api.Form {
	return and(eq(v("a"), mul(2, v("b"))), eq(v("a"), add(mul(2, v("c")), num(1))))
}

// example: the chapter's first one.
func example() api.Form { return and(le(x(), y()), le(y(), x()), not(eq(f(x()), f(y())))) }

// clone: a tree as new memory.
func clone(t api.Form) api.Form {
	out := api.Form{Kind: t.Kind, Name: t.Name}
	for _, arg := range t.Args {
		out.Args = append(out.Args, clone(arg))
	}
	return out
}

// show: all that a tree is, in a text.
func show(t api.Form) string {
	out := "(" + strconv.Itoa(t.Kind) + " " + strconv.Quote(t.Name)
	for _, arg := range t.Args {
		out += " " + show(arg)
	}
	return out + ")"
}

// brief: a tree's text, or how it begins.
func brief(t api.Form) string {
	text := theory.Text(t)
	return text[:min(len(text), 1500)]
}

// alike: by the chapter's words.
func alike(a, b api.Form) bool {
	named := slices.Contains([]int{api.TVar, api.TNum, api.TMul, api.TApp, api.FBool}, a.Kind)
	return a.Kind == b.Kind && (!named || a.Name == b.Name) && slices.EqualFunc(a.Args, b.Args, alike)
}

func isAtom(t api.Form) bool { return t.Kind == api.FBool || t.Kind == api.FLe || t.Kind == api.FEq }

// unlikeAtoms: those of a formula, each once.
func unlikeAtoms(t api.Form) []api.Form {
	if isAtom(t) {
		return list(t)
	}
	var l []api.Form
	for _, arg := range t.Args {
		for _, atom := range unlikeAtoms(arg) {
			if at(l, atom) < 0 {
				l = append(l, atom)
			}
		}
	}
	return l
}

// at: the place of an atom that is alike, or -1.
func at(l []api.Form, atom api.Form) int {
	return slices.IndexFunc(l, func(other api.Form) bool { return alike(other, atom) })
}

// joints: how many parts a formula has that are made of others, without FNot.
func joints(t api.Form) int {
	if isAtom(t) {
		return 0
	}
	count := 1
	if t.Kind == api.FNot {
		count = 0
	}
	for _, arg := range t.Args {
		count += joints(arg)
	}
	return count
}

// holds: does a formula, if its atoms are as told?
func holds(t api.Form, is func(api.Form) bool) bool {
	if isAtom(t) {
		return is(t)
	}
	var args []bool
	for _, arg := range t.Args {
		args = append(args, holds(arg, is))
	}
	switch t.Kind {
	case api.FNot:
		return !args[0]
	case api.FAnd:
		return !slices.Contains(args, false)
	case api.FOr:
		return slices.Contains(args, true)
	case api.FImp:
		return args[1] || !args[0]
	}
	return args[0] == args[1]
}

// named: the number that the first value of that name has.
func named(l []api.Value, name string) *big.Int {
	for _, one := range l {
		if one.Name == name {
			return whole(one.Num)
		}
	}
	return new(big.Int)
}

func whole(text string) *big.Int {
	n, ok := new(big.Int).SetString(text, 10)
	if !ok {
		panic("no number: " + text)
	}
	return n
}

// reckoned: a term's value, by layer 8's words.
func reckoned(t api.Form, m api.Model) *big.Int {
	total := new(big.Int)
	var texts []string
	for _, arg := range t.Args {
		n := reckoned(arg, m)
		total.Add(total, n)
		texts = append(texts, n.String())
	}
	switch t.Kind {
	case api.TVar:
		return named(m.Vars, t.Name)
	case api.TNum:
		return whole(t.Name)
	case api.TMul:
		return total.Mul(total, whole(t.Name))
	case api.TAdd:
		return total
	}
	for _, e := range m.Funs {
		if e.Fun == t.Name && slices.Equal(e.Args, texts) {
			return whole(e.Num)
		}
	}
	return new(big.Int)
}

// judged: is a formula true in a model? (Of formulas whose numbers are small.)
func judged(t api.Form, m api.Model) bool {
	return holds(t, func(atom api.Form) bool {
		if atom.Kind == api.FBool {
			return named(m.Bools, atom.Name).Cmp(big.NewInt(1)) == 0
		}
		order := reckoned(atom.Args[0], m).Cmp(reckoned(atom.Args[1], m))
		return order == 0 || order < 0 && atom.Kind == api.FLe
	})
}

// solve: an answer that what it has bears out, within the budget.
func solve(t testing.TB, tree api.Form, budget int) smt.Answer {
	t.Helper()
	a, err := smt.Solve(tree, budget)
	if err != api.OK {
		t.Fatalf("%s: error %d", brief(tree), err)
	}
	wantBorneOut(t, tree, budget, a)
	return a
}

// solved: likewise, with that verdict.
func solved(t testing.TB, tree api.Form, want api.Verdict) smt.Answer {
	t.Helper()
	a := solve(t, tree, enough)
	if a.Verdict != want {
		t.Fatalf("%s: verdict %d; want %d", brief(tree), a.Verdict, want)
	}
	return a
}

// wantBorneOut: what the verdict says holds, and what it isn't has nothing.
func wantBorneOut(t testing.TB, tree api.Form, budget int, a smt.Answer) {
	t.Helper()
	if a.Steps < 0 || a.Steps > max(budget, 0) {
		t.Fatalf("%s: Solve(%d) took %d steps", brief(tree), budget, a.Steps)
	}
	if a.Verdict != api.Sat && len(a.Model.Vars)+len(a.Model.Bools)+len(a.Model.Funs) != 0 {
		t.Fatalf("%s: verdict %d, with the model %v", brief(tree), a.Verdict, a.Model)
	}
	if a.Verdict != api.Unsat && len(a.Cert.Atoms)+len(a.Cert.Lemmas)+len(a.Cert.Chains) != 0 {
		t.Fatalf("%s: verdict %d, with the certificate %v", brief(tree), a.Verdict, a.Cert)
	}
	switch a.Verdict {
	case api.Sat:
		if is, err := theory.True(tree, a.Model); err != api.OK || !is || !judged(tree, a.Model) {
			t.Fatalf("%s: not true in %v: %t, error %d", brief(tree), a.Model, is, err)
		}
	case api.Unsat:
		wantShown(t, tree, a.Cert)
	case api.Unknown:
	default:
		t.Fatalf("%s: verdict %d", brief(tree), a.Verdict)
	}
}

// atomsOf: by variable, of a formula's clauses and a certificate.
func atomsOf(coded smt.Coded, c smt.Cert) map[int]api.Form {
	atoms := map[int]api.Form{}
	for _, atom := range coded.Atoms {
		atoms[atom.Var] = atom.Form
	}
	for i, atom := range c.Atoms {
		atoms[coded.Vars+1+i] = atom
	}
	return atoms
}

// denied: the opposites of a clause's literals.
func denied(t testing.TB, atoms map[int]api.Form, clause []int) []theory.Lit {
	t.Helper()
	var lits []theory.Lit
	for _, l := range clause {
		atom, ok := atoms[max(l, -l)]
		if !ok {
			t.Fatalf("%d in %v is no atom's", l, clause)
		}
		lits = append(lits, theory.Lit{Atom: atom, Neg: l > 0})
	}
	return lits
}

// wantShown: Check takes the certificate; its lemmas one by one are shown by their proofs, and clauses and lemmas have no model by its chains.
func wantShown(t testing.TB, tree api.Form, c smt.Cert) {
	t.Helper()
	if err := smt.Check(tree, c); err != api.OK {
		t.Fatalf("%s: the certificate %v is refused: error %d", brief(tree), c, err)
	}
	coded, err := smt.Clauses(tree)
	if err != api.OK {
		t.Fatalf("%s: error %d", brief(tree), err)
	}
	atoms := atomsOf(coded, c)
	clauses := coded.Clauses
	for _, lemma := range c.Lemmas {
		if err := theory.Shows(denied(t, atoms, lemma.Clause), lemma.Proof); err != api.OK {
			t.Fatalf("%s: the lemma %v isn't shown: error %d", brief(tree), lemma, err)
		}
		clauses = append(clauses, lemma.Clause)
	}
	if err := sat.Check(clauses, c.Chains); err != api.OK {
		t.Fatalf("%s: the chains show nothing: error %d", brief(tree), err)
	}
	for _, atom := range c.Atoms {
		if theory.Sound(atom) != api.OK || atom.Kind != api.FLe && atom.Kind != api.FEq {
			t.Fatalf("%s: %s is a further atom", brief(tree), brief(atom))
		}
	}
}
