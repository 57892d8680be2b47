package theory_test

import (
	"math/big"
	"slices"
	"strconv"
	"strings"
	"testing"

	"surety/api"
	"surety/theory"
)

// The tests hold the package against reckonings of their own, with math/big's numbers and by the chapter's words; they know of it only what its exported calls tell.

// enough: a budget with which small literals are seldom left open.
const enough = 100000

// dice is a row of numbers that is always the same.
type dice uint64

func (d *dice) next(below int) int {
	*d = *d*6364136223846793005 + 1442695040888963407
	return int(uint64(*d)>>33) % below
}

// number: from 0 less most to most.
func (d *dice) number(most int) int { return d.next(2*most+1) - most }

func form(kind int, name string, args ...api.Form) api.Form {
	return api.Form{Kind: kind, Name: name, Args: args}
}

func v(name string) api.Form                    { return form(api.TVar, name) }
func num(n int) api.Form                        { return form(api.TNum, strconv.Itoa(n)) }
func bigNum(n *big.Int) api.Form                { return form(api.TNum, n.String()) }
func add(args ...api.Form) api.Form             { return form(api.TAdd, "", args...) }
func mul(by int, arg api.Form) api.Form         { return form(api.TMul, strconv.Itoa(by), arg) }
func bigMul(by *big.Int, arg api.Form) api.Form { return form(api.TMul, by.String(), arg) }
func app(fun string, args ...api.Form) api.Form { return form(api.TApp, fun, args...) }
func f(args ...api.Form) api.Form               { return app("f", args...) }
func g(args ...api.Form) api.Form               { return app("g", args...) }
func boolean(name string) api.Form              { return form(api.FBool, name) }
func le(a, b api.Form) api.Form                 { return form(api.FLe, "", a, b) }
func eq(a, b api.Form) api.Form                 { return form(api.FEq, "", a, b) }
func not(a api.Form) api.Form                   { return form(api.FNot, "", a) }
func and(args ...api.Form) api.Form             { return form(api.FAnd, "", args...) }
func or(args ...api.Form) api.Form              { return form(api.FOr, "", args...) }
func imp(a, b api.Form) api.Form                { return form(api.FImp, "", a, b) }
func iff(a, b api.Form) api.Form                { return form(api.FIff, "", a, b) }
func yes(atom api.Form) theory.Lit              { return theory.Lit{Atom: atom} }
func no(atom api.Form) theory.Lit               { return theory.Lit{Atom: atom, Neg: true} }
func lits(list ...theory.Lit) []theory.Lit      { return list }
func less(a, b api.Form) theory.Lit             { return no(le(b, a)) }
func equal(list ...[2]api.Form) [][2]api.Form   { return list }
func two(a, b api.Form) [2]api.Form             { return [2]api.Form{a, b} }
func value(name, text string) api.Value         { return api.Value{Name: name, Num: text} }
func x() api.Form                               { return v("x") }
func y() api.Form                               { return v("y") }
func z() api.Form                               { return v("z") }
func entry(fun, text string, args ...string) api.Entry {
	return api.Entry{Fun: fun, Args: args, Num: text}
}

// power: 2^k + more.
func power(k uint, more int64) *big.Int {
	n := new(big.Int).Lsh(big.NewInt(1), k)
	return n.Add(n, big.NewInt(more))
}

func minus(n *big.Int) *big.Int { return new(big.Int).Neg(n) }

// most: the greatest number.
func most() *big.Int { return power(api.MaxBits, -1) }

// repeated: so many of one form.
func repeated(count int, part api.Form) []api.Form { return slices.Repeat([]api.Form{part}, count) }

// variables: so many, unlike each other.
func variables(count int) []api.Form {
	var list []api.Form
	for i := range count {
		list = append(list, v("x"+strconv.Itoa(i)))
	}
	return list
}

// numbers: 0, 1, .., so many.
func numbers(count int) []api.Form {
	var list []api.Form
	for i := range count {
		list = append(list, num(i))
	}
	return list
}

// deep: a part with so many others around it.
func deep(around int, wrap func(api.Form) api.Form, part api.Form) api.Form {
	for range around {
		part = wrap(part)
	}
	return part
}

// clone: a tree as new memory.
func clone(t api.Form) api.Form {
	out := api.Form{Kind: t.Kind, Name: t.Name}
	for _, arg := range t.Args {
		out.Args = append(out.Args, clone(arg))
	}
	return out
}

func cloneLits(list []theory.Lit) []theory.Lit {
	var out []theory.Lit
	for _, l := range list {
		out = append(out, theory.Lit{Atom: clone(l.Atom), Neg: l.Neg})
	}
	return out
}

// brief: a tree's text, or how it begins.
func brief(t api.Form) string {
	text := theory.Text(t)
	return text[:min(len(text), 300)]
}

// show: all that a tree is, in a text.
func show(t api.Form) string {
	out := "(" + strconv.Itoa(t.Kind) + " " + strconv.Quote(t.Name)
	for _, arg := range t.Args {
		out += " " + show(arg)
	}
	return out + ")"
}

func showLits(list []theory.Lit) string {
	var out []string
	for _, l := range list {
		text := brief(l.Atom)
		if l.Neg {
			text = "not " + text
		}
		out = append(out, text)
	}
	text := strings.Join(out, "; ")
	return text[:min(len(text), 2000)]
}

// tooBig: has it more bits than a number may have?
func tooBig(n *big.Int) bool { return n.BitLen() > api.MaxBits }

// isNumber: by the rules of layer 1.
func isNumber(s string) (*big.Int, bool) {
	n, ok := new(big.Int).SetString(s, 10)
	if !ok || n.String() != s || tooBig(n) {
		return new(big.Int), false
	}
	return n, true
}

// named: the number that the first value of that name has.
func named(list []api.Value, name string) *big.Int {
	for _, one := range list {
		if one.Name == name {
			n, _ := isNumber(one.Num)
			return n
		}
	}
	return new(big.Int)
}

// applied: the number that the first entry of that function at these arguments has.
func applied(list []api.Entry, fun string, args []*big.Int) *big.Int {
	for _, e := range list {
		if e.Fun != fun || len(e.Args) != len(args) {
			continue
		}
		fits := true
		for i, arg := range args {
			fits = fits && e.Args[i] == arg.String()
		}
		if fits {
			n, _ := isNumber(e.Num)
			return n
		}
	}
	return new(big.Int)
}

// reckoned: a term's value, by the chapter's words; false, if a number on the way is too large.
func reckoned(t api.Form, m api.Model) (*big.Int, bool) {
	var args []*big.Int
	for _, arg := range t.Args {
		n, ok := reckoned(arg, m)
		if !ok {
			return nil, false
		}
		args = append(args, n)
	}
	switch t.Kind {
	case api.TVar:
		return named(m.Vars, t.Name), true
	case api.TNum:
		return isNumber(t.Name)
	case api.TAdd:
		total := new(big.Int)
		for _, n := range args {
			total = new(big.Int).Add(total, n)
			if tooBig(total) {
				return nil, false
			}
		}
		return total, true
	case api.TMul:
		by, _ := isNumber(t.Name)
		product := by.Mul(by, args[0])
		return product, !tooBig(product)
	}
	return applied(m.Funs, t.Name, args), true
}

// judged: a formula's truth, likewise.
func judged(t api.Form, m api.Model) (is, ok bool) {
	switch t.Kind {
	case api.FBool:
		return named(m.Bools, t.Name).Cmp(big.NewInt(1)) == 0, true
	case api.FLe, api.FEq:
		a, ok := reckoned(t.Args[0], m)
		if !ok {
			return false, false
		}
		b, ok := reckoned(t.Args[1], m)
		if !ok {
			return false, false
		}
		if t.Kind == api.FLe {
			return a.Cmp(b) <= 0, true
		}
		return a.Cmp(b) == 0, true
	}
	var args []bool
	for _, arg := range t.Args {
		is, ok := judged(arg, m)
		if !ok {
			return false, false
		}
		args = append(args, is)
	}
	switch t.Kind {
	case api.FNot:
		return !args[0], true
	case api.FAnd:
		return !slices.Contains(args, false), true
	case api.FOr:
		return slices.Contains(args, true), true
	case api.FImp:
		return args[1] || !args[0], true
	}
	return args[0] == args[1], true
}

// hold: do all literals, in a model, by the tests' own reckoning and by True?
func hold(t testing.TB, list []theory.Lit, m api.Model) bool {
	t.Helper()
	all := true
	for _, l := range list {
		is, ok := judged(l.Atom, m)
		told, err := theory.True(l.Atom, m)
		if told != is || (err == api.OK) != ok {
			t.Fatalf("True(%s) is %t, error %d; want %t", brief(l.Atom), told, err, is)
		}
		all = all && ok && is != l.Neg
	}
	return all
}

// check: an answer that what it has bears out, within the budget.
func check(t testing.TB, list []theory.Lit, budget int) theory.Answer {
	t.Helper()
	a, err := theory.Check(list, budget)
	if err != api.OK {
		t.Fatalf("%s: error %d", showLits(list), err)
	}
	if a.Steps < 0 || a.Steps > max(budget, 0) {
		t.Fatalf("%s: Check(%d) took %d steps", showLits(list), budget, a.Steps)
	}
	wantBorneOut(t, list, a)
	return a
}

// checked: likewise, with that verdict.
func checked(t testing.TB, list []theory.Lit, want api.Verdict) theory.Answer {
	t.Helper()
	a := check(t, list, enough)
	if a.Verdict != want {
		t.Fatalf("%s: verdict %d; want %d (split %v)", showLits(list), a.Verdict, want, splitText(a))
	}
	return a
}

func splitText(a theory.Answer) string {
	if len(a.Split) == 0 {
		return "nothing"
	}
	return brief(a.Split[0])
}

// wantBorneOut: what the verdict says holds, and what it isn't has nothing.
func wantBorneOut(t testing.TB, list []theory.Lit, a theory.Answer) {
	t.Helper()
	if a.Verdict != api.Sat && len(a.Model.Vars)+len(a.Model.Bools)+len(a.Model.Funs) != 0 {
		t.Fatalf("%s: verdict %d, with the model %v", showLits(list), a.Verdict, a.Model)
	}
	if a.Verdict != api.Unsat && (len(a.Core) != 0 || !isNothing(a.Proof)) {
		t.Fatalf("%s: verdict %d, with the core %v and the proof %v", showLits(list), a.Verdict, a.Core, a.Proof)
	}
	if a.Verdict != api.Unknown && len(a.Split) != 0 {
		t.Fatalf("%s: verdict %d, with a split", showLits(list), a.Verdict)
	}
	switch a.Verdict {
	case api.Sat:
		if !hold(t, list, a.Model) {
			t.Fatalf("%s: not in the model %v", showLits(list), a.Model)
		}
	case api.Unsat:
		wantShown(t, list, a)
	case api.Unknown:
		wantSplit(t, list, a.Split)
	default:
		t.Fatalf("verdict %d", a.Verdict)
	}
}

// isNothing: is a proof the zero one?
func isNothing(p theory.Proof) bool {
	return !p.Apart && p.Bad == 0 && len(p.Lits) == 0 && isNoForm(p.A) && isNoForm(p.B) && len(p.Steps) == 0 && isNoTree(p.Tree)
}

func isNoForm(t api.Form) bool { return t.Kind == 0 && t.Name == "" && len(t.Args) == 0 }

func isNoTree(b api.Branch) bool {
	return !b.Leaf && len(b.Parts) == 0 && b.Var == 0 && b.Split == "" && len(b.Kids) == 0
}

// wantShown: the core rises, its literals by themselves aren't Sat, and the proof shows it, among all literals and, with their places turned into those among the core's, of the core's alone.
func wantShown(t testing.TB, list []theory.Lit, a theory.Answer) {
	t.Helper()
	var alone []theory.Lit
	for i, place := range a.Core {
		if place < 0 || place >= len(list) || i > 0 && place <= a.Core[i-1] {
			t.Fatalf("%s: the core is %v", showLits(list), a.Core)
		}
		alone = append(alone, list[place])
	}
	if err := theory.Shows(list, a.Proof); err != api.OK {
		t.Fatalf("%s: the proof %v shows nothing: error %d", showLits(list), a.Proof, err)
	}
	if err := theory.Shows(alone, moved(a.Proof, a.Core)); err != api.OK {
		t.Fatalf("%s: the proof %v shows nothing of %v alone: error %d", showLits(list), a.Proof, a.Core, err)
	}
	if b, err := theory.Check(alone, enough); err != api.OK || b.Verdict != api.Unsat {
		t.Fatalf("%s: of %v alone the verdict is %d, error %d", showLits(list), a.Core, b.Verdict, err)
	}
	wantTidy(t, a.Proof)
}

// wantTidy: what a proof has no use for is nothing.
func wantTidy(t testing.TB, p theory.Proof) {
	t.Helper()
	if p.Apart && (len(p.Steps) != 0 || !isNoTree(p.Tree)) {
		t.Fatalf("rows beside what is apart: %v", p)
	}
	if !p.Apart && (p.Bad != 0 || len(p.Lits) != 0 || !isNoForm(p.A) || !isNoForm(p.B)) {
		t.Fatalf("what is apart beside rows: %v", p)
	}
	for _, s := range p.Steps {
		if s.Kind != theory.OfSame && (!isNoForm(s.A) || !isNoForm(s.B)) {
			t.Fatalf("terms of a step that has none: %v", s)
		}
	}
}

// moved: a proof in which each place that is named becomes its place in a list.
func moved(p theory.Proof, core []int) theory.Proof {
	turn := func(list []int) []int {
		var out []int
		for _, place := range list {
			at, _ := slices.BinarySearch(core, place)
			out = append(out, at)
		}
		return out
	}
	p.Lits = turn(p.Lits)
	if p.Apart && p.Bad >= 0 {
		p.Bad = turn([]int{p.Bad})[0]
	}
	p.Steps = slices.Clone(p.Steps)
	for i := range p.Steps {
		p.Steps[i].Lits = turn(p.Steps[i].Lits)
	}
	return p
}

// wantSplit: none, or one atom that no literal decides.
func wantSplit(t testing.TB, list []theory.Lit, split []api.Form) {
	t.Helper()
	if len(split) == 0 {
		return
	}
	if len(split) != 1 || theory.Sound(split[0]) != api.OK || split[0].Kind != api.FLe && split[0].Kind != api.FEq {
		t.Fatalf("%s: the split is %v", showLits(list), split)
	}
	for _, l := range list {
		if show(l.Atom) == show(split[0]) {
			t.Fatalf("%s: the split %s is decided", showLits(list), theory.Text(split[0]))
		}
	}
}
