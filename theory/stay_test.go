package theory_test

import (
	"math"
	"strconv"
	"strings"
	"testing"

	"surety/api"
	"surety/theory"
)

// told: all that an answer tells.
func told(a theory.Answer) string {
	list := []string{"verdict", strconv.Itoa(int(a.Verdict)), "steps", strconv.Itoa(a.Steps), "model", modelText(a.Model), "core"}
	for _, place := range a.Core {
		list = append(list, strconv.Itoa(place))
	}
	list = append(list, "proof", proofText(a.Proof), "split")
	for _, tree := range a.Split {
		list = append(list, show(tree))
	}
	return strings.Join(list, " ")
}

func modelText(m api.Model) string {
	var list []string
	for _, one := range m.Vars {
		list = append(list, one.Name+"="+one.Num)
	}
	for _, one := range m.Bools {
		list = append(list, one.Name+":"+one.Num)
	}
	for _, e := range m.Funs {
		list = append(list, e.Fun+"("+strings.Join(e.Args, ",")+")="+e.Num)
	}
	return strings.Join(list, " ")
}

func proofText(p theory.Proof) string {
	list := []string{strconv.FormatBool(p.Apart), strconv.Itoa(p.Bad), placesText(p.Lits), show(p.A), show(p.B)}
	for _, s := range p.Steps {
		list = append(list, "step", strconv.Itoa(s.Kind), placesText(s.Lits), show(s.A), show(s.B))
	}
	return strings.Join(append(list, treeText(p.Tree)), " ")
}

func placesText(list []int) string {
	out := "["
	for _, place := range list {
		out += strconv.Itoa(place) + " "
	}
	return out + "]"
}

func treeText(b api.Branch) string {
	out := "(" + strconv.FormatBool(b.Leaf) + " " + strconv.Itoa(b.Var) + " " + b.Split
	for _, p := range b.Parts {
		out += " " + strconv.Itoa(p.Row) + ":" + p.Mult
	}
	for _, kid := range b.Kids {
		out += " " + treeText(kid)
	}
	return out + ")"
}

// spoil changes all that an answer has, with its spare room.
func spoil(a theory.Answer) {
	spoilPlaces(a.Core)
	spoilPlaces(a.Proof.Lits)
	spoilForm(a.Proof.A)
	spoilForm(a.Proof.B)
	for i, s := range a.Proof.Steps {
		spoilPlaces(s.Lits)
		spoilForm(s.A)
		spoilForm(s.B)
		a.Proof.Steps[i] = theory.Step{Kind: 99}
	}
	_ = append(a.Proof.Steps, theory.Step{Kind: 98})
	spoilTree(a.Proof.Tree)
	for _, tree := range a.Split {
		spoilForm(tree)
	}
	for i := range a.Model.Vars {
		a.Model.Vars[i] = value("spoilt", "9")
	}
	for i, e := range a.Model.Funs {
		for j := range e.Args {
			e.Args[j] = "spoilt"
		}
		_ = append(e.Args, "spoilt")
		a.Model.Funs[i] = entry("spoilt", "9")
	}
	_ = append(a.Model.Vars, value("spoilt", "8"))
	_ = append(a.Model.Funs, entry("spoilt", "8"))
}

func spoilPlaces(list []int) {
	for i := range list {
		list[i] = -77
	}
	_ = append(list, -78)
}

func spoilForm(tree api.Form) {
	for i, arg := range tree.Args {
		spoilForm(arg)
		tree.Args[i] = form(99, "spoilt")
	}
	_ = append(tree.Args, form(98, "spoilt"))
}

func spoilTree(b api.Branch) {
	for i := range b.Parts {
		b.Parts[i] = api.Part{Row: 77, Mult: "x"}
	}
	_ = append(b.Parts, api.Part{Row: 78})
	for i, kid := range b.Kids {
		spoilTree(kid)
		b.Kids[i] = api.Branch{Var: -1}
	}
	_ = append(b.Kids, api.Branch{Var: -2})
}

// roomy: a tree whose lists have spare room.
func roomy(tree api.Form) api.Form {
	out := api.Form{Kind: tree.Kind, Name: tree.Name, Args: make([]api.Form, 0, len(tree.Args)+2)}
	for _, arg := range tree.Args {
		out.Args = append(out.Args, roomy(arg))
	}
	return out
}

// spare: what stands in the spare room of a tree's lists, in a text.
func spare(tree api.Form) string {
	out := ""
	for _, arg := range tree.Args {
		out += spare(arg)
	}
	for _, arg := range tree.Args[len(tree.Args):cap(tree.Args)] {
		out += show(arg)
	}
	return out
}

// P2: the same literals have the same answer, whatever was changed in an answer ahead or in what was handed in; and that stays as it was, with its spare room.
func TestNothingIsShared(t *testing.T) {
	d := dice(37)
	var verdicts [3]int
	for round := range 1200 {
		list := d.anyLits(9)
		if round < len(many()) {
			list = many()[round]
		}
		given := make([]theory.Lit, 0, len(list)+1)
		for _, l := range list {
			given = append(given, theory.Lit{Atom: roomy(l.Atom), Neg: l.Neg})
		}
		a, _ := theory.Check(given, 300)
		b, _ := theory.Check(given, 300)
		verdicts[a.Verdict]++
		first := told(a)
		spoil(a)
		if told(b) != first {
			t.Fatalf("%s became %s", first, told(b))
		}
		for i, l := range given {
			if show(l.Atom) != show(list[i].Atom) || l.Neg != list[i].Neg || spare(l.Atom) != spare(roomy(l.Atom)) {
				t.Fatalf("%s became %s", show(list[i].Atom), show(l.Atom))
			}
		}
		if show(given[:len(list)+1][len(list)].Atom) != show(api.Form{}) {
			t.Fatal("something stands behind the literals")
		}
		theory.Shows(given, b.Proof)
		if told(b) != first {
			t.Fatalf("%s became %s", first, told(b))
		}
		for i := range given {
			spoilForm(given[i].Atom)
			given[i] = theory.Lit{}
		}
		if c, _ := theory.Check(list, 300); told(b) != first || told(c) != first {
			t.Fatalf("%s became %s, or %s", first, told(b), told(c))
		}
	}
	for verdict, count := range verdicts {
		if count == 0 {
			t.Errorf("no verdict %d", verdict)
		}
	}
}

// P2: no two lists of one answer share memory: what is changed in one doesn't change another.
func TestListsOfOneAnswer(t *testing.T) {
	list := lits(yes(eq(x(), y())), yes(le(f(x()), z())), less(z(), f(y())))
	a := checked(t, list, api.Unsat)
	for i := range a.Proof.Steps {
		fresh := checked(t, list, api.Unsat)
		before := told(fresh)
		s := fresh.Proof.Steps[i]
		spoilPlaces(s.Lits)
		spoilForm(s.A)
		spoilForm(s.B)
		fresh.Proof.Steps[i] = a.Proof.Steps[i]
		if told(fresh) != before {
			t.Errorf("%s became %s", before, told(fresh))
		}
	}
	for _, list := range [][]theory.Lit{
		lits(yes(eq(x(), y())), no(eq(f(x()), f(y())))),
		lits(yes(eq(x(), num(1))), yes(eq(x(), num(2)))),
		lits(yes(le(x(), num(1))), yes(le(num(2), x()))),
	} {
		b := checked(t, list, api.Unsat)
		before := told(b)
		spoilPlaces(b.Core)
		b.Core = []int{0, 1}
		if told(b) != before {
			t.Errorf("%s became %s", before, told(b))
		}
	}
}

// P2: the other calls change nothing that they are given, and answer the same again.
func TestCallsChangeNothing(t *testing.T) {
	d := dice(41)
	for range 500 {
		m, tree, formula := d.anyModel(), roomy(d.anyTerm(3)), roomy(d.anyFormula(3))
		e, a, b := d.smallEquations(), roomy(d.smallTerm(3)), roomy(d.smallTerm(3))
		call := func() string {
			n, err := theory.Value(tree, m)
			is, err2 := theory.True(formula, m)
			alike, err3 := theory.Alike(e, a, b)
			return strings.Join([]string{n.Text(), strconv.Itoa(int(err)), strconv.FormatBool(is), strconv.Itoa(int(err2)), strconv.FormatBool(alike), strconv.Itoa(int(err3)), theory.Text(formula), strconv.Itoa(int(theory.Sound(formula))), strconv.Itoa(int(theory.IsTerm(tree)))}, " ")
		}
		state := func() string {
			out := modelText(m) + show(tree) + show(formula) + show(a) + show(b) + spare(tree) + spare(formula) + spare(a) + spare(b)
			for _, p := range e {
				out += show(p[0]) + show(p[1])
			}
			return out
		}
		before, first := state(), call()
		if call() != first || state() != before {
			t.Fatalf("%s became %s", before, state())
		}
	}
}

// P2, rule 3: refused calls change no later answer.
func TestRefusedCallsLeaveNothing(t *testing.T) {
	for _, list := range many() {
		a := check(t, list, 300)
		theory.Check(append(cloneLits(list), yes(and())), 300)
		theory.Check(append(cloneLits(list), yes(le(x(), form(77, "")))), 300)
		theory.Alike(equal(two(x(), y()), two(x(), form(77, ""))), x(), y())
		theory.Shows(list, theory.Proof{Apart: true, Bad: 1 << 40})
		if b := check(t, list, 300); told(a) != told(b) {
			t.Errorf("%s became %s", told(a), told(b))
		}
	}
}

// P1: nothing panics, whatever is handed in.
func TestNothingPanics(t *testing.T) {
	odd := []int{math.MinInt, math.MaxInt, -1, 0, 1, 2, 3, 5, 77}
	d := dice(43)
	for range 400 {
		trees := []api.Form{d.anyTree(4, false), d.anyTree(4, true), d.anyTree(2, false), {}, {Kind: d.next(30) - 5, Args: make([]api.Form, d.next(4))}}
		m := d.anyModel()
		for _, tree := range trees {
			theory.Value(tree, m)
			theory.True(tree, m)
			theory.Text(tree)
			theory.Alike(equal(two(tree, trees[1])), trees[0], trees[1])
			theory.Alike(nil, tree, tree)
		}
		list := lits(yes(trees[0]), no(trees[2]), theory.Lit{})
		theory.Check(list[:d.next(4)], odd[d.next(len(odd))])
		list = append(list, d.anyLits(4)...)
		for range 5 {
			p := theory.Proof{Apart: d.next(2) == 0, Bad: odd[d.next(len(odd))], Lits: []int{odd[d.next(len(odd))]}, A: trees[d.next(5)], B: d.smallTerm(1)}
			for range d.next(4) {
				s := theory.Step{Kind: odd[d.next(len(odd))], A: trees[d.next(5)], B: trees[d.next(5)]}
				for range d.next(3) {
					s.Lits = append(s.Lits, odd[d.next(len(odd))])
				}
				p.Steps = append(p.Steps, s)
			}
			p.Tree = api.Branch{Leaf: d.next(2) == 0, Var: odd[d.next(len(odd))], Split: "0", Parts: []api.Part{{Row: odd[d.next(len(odd))], Mult: "1"}}, Kids: make([]api.Branch, d.next(3))}
			theory.Shows(list, p)
			theory.Shows(nil, p)
		}
	}
}
