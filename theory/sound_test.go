package theory_test

import (
	"testing"

	"surety/api"
	"surety/theory"
)

func wantSound(t *testing.T, what string, tree api.Form, formula, term api.Errno) {
	t.Helper()
	if got := theory.Sound(tree); got != formula {
		t.Errorf("%s: Sound: error %d; want %d", what, got, formula)
	}
	if got := theory.IsTerm(tree); got != term {
		t.Errorf("%s: IsTerm: error %d; want %d", what, got, term)
	}
}

// P8.1: each kind, with the Args that it has.
func TestKinds(t *testing.T) {
	for _, tree := range []api.Form{x(), v(""), num(-7), add(), add(x()), add(x(), y(), num(3)), mul(-2, x()), app("f"), f(x(), y(), num(1)), app("", f()), f(add(mul(3, f(x())), y()))} {
		wantSound(t, theory.Text(tree), tree, api.ErrForm, api.OK)
	}
	for _, tree := range []api.Form{boolean("p"), boolean(""), le(x(), y()), eq(f(), add()), not(boolean("p")), and(), or(), and(boolean("p"), le(x(), y())), or(and()), imp(or(), not(and())), iff(eq(x(), num(0)), imp(boolean("q"), boolean("p")))} {
		wantSound(t, theory.Text(tree), tree, api.OK, api.ErrForm)
	}
}

// P8.1: Names that don't matter may be anything.
func TestNamesThatDontMatter(t *testing.T) {
	name := "no number, (or so)"
	wantSound(t, "TAdd", form(api.TAdd, name, x()), api.ErrForm, api.OK)
	for _, kind := range []int{api.FLe, api.FEq} {
		wantSound(t, "atom", form(kind, name, x(), y()), api.OK, api.ErrForm)
	}
	wantSound(t, "FNot", form(api.FNot, name, and()), api.OK, api.ErrForm)
	for _, kind := range []int{api.FAnd, api.FOr, api.FImp, api.FIff} {
		wantSound(t, "of two", form(kind, name, and(), or()), api.OK, api.ErrForm)
	}
}

// P8.1: Kinds that are none, wherever they stand.
func TestNoKind(t *testing.T) {
	for _, kind := range []int{0, -1, 6, 7, 10, 19, 100, 1 << 40, -1 << 60} {
		odd := form(kind, "0")
		wantSound(t, "odd", odd, api.ErrForm, api.ErrForm)
		wantSound(t, "in a sum", add(x(), odd), api.ErrForm, api.ErrForm)
		wantSound(t, "in an atom", le(x(), odd), api.ErrForm, api.ErrForm)
		wantSound(t, "in FAnd", and(boolean("p"), odd), api.ErrForm, api.ErrForm)
		wantSound(t, "with Args", form(kind, "0", x(), y()), api.ErrForm, api.ErrForm)
	}
}

// P8.1: terms where formulas should be, and the other way about.
func TestOutOfPlace(t *testing.T) {
	for _, tree := range []api.Form{add(boolean("p")), mul(2, le(x(), y())), f(x(), and()), not(x()), and(or(), num(1)), or(x()), imp(x(), and()), imp(and(), x()), iff(x(), y()), le(boolean("p"), x()), eq(x(), eq(x(), y()))} {
		wantSound(t, theory.Text(tree), tree, api.ErrForm, api.ErrForm)
	}
}

// P8.1: too many and too few Args.
func TestArgs(t *testing.T) {
	for count := range 4 {
		terms, formulas := repeated(count, x()), repeated(count, and())
		for _, kind := range []int{api.TVar, api.TNum, api.TMul} {
			want := api.ErrForm
			if count == 0 && kind != api.TMul || count == 1 && kind == api.TMul {
				want = api.OK
			}
			wantSound(t, "a term", form(kind, "1", terms...), api.ErrForm, want)
		}
		for _, kind := range []int{api.FBool, api.FLe, api.FEq, api.FNot, api.FImp, api.FIff} {
			args, needed := formulas, 2
			switch kind {
			case api.FBool:
				needed = 0
			case api.FNot:
				needed = 1
			case api.FLe, api.FEq:
				args = terms
			}
			want := api.ErrForm
			if count == needed {
				want = api.OK
			}
			wantSound(t, "a formula", form(kind, "1", args...), want, api.ErrForm)
		}
	}
}

// P8.1: the Names of TNum and TMul are numbers' texts.
func TestNumbersNames(t *testing.T) {
	big, less := power(api.MaxBits, 0), most()
	for text, want := range map[string]api.Errno{"": api.ErrDigit, "-0": api.ErrDigit, "007": api.ErrDigit, "+1": api.ErrDigit, "1 ": api.ErrDigit, "x": api.ErrDigit, "1/2": api.ErrDigit, "-12": api.OK, big.String(): api.ErrBig, minus(big).String(): api.ErrBig, less.String(): api.OK, minus(less).String(): api.OK} {
		wantSound(t, text, form(api.TNum, text), api.ErrForm, want)
		wantSound(t, text, form(api.TMul, text, x()), api.ErrForm, want)
		wantSound(t, text, and(le(x(), form(api.TMul, text, y()))), want, api.ErrForm)
	}
}

// P8.1: a tree 200 parts deep, and 201.
func TestDepth(t *testing.T) {
	sum := func(t api.Form) api.Form { return add(num(1), t) }
	deepest := deep(api.MaxForm-1, sum, x())
	wantSound(t, "200 deep", deepest, api.ErrForm, api.OK)
	wantSound(t, "201 deep", sum(deepest), api.ErrForm, api.ErrDeep)
	wantSound(t, "beyond", deep(3, sum, deepest), api.ErrForm, api.ErrDeep)
	wantSound(t, "an atom 201 deep", le(num(0), deepest), api.ErrDeep, api.ErrForm)
	wantSound(t, "an atom 200 deep", le(num(0), deep(api.MaxForm-2, sum, x())), api.OK, api.ErrForm)
	wantSound(t, "a formula 200 deep", deep(api.MaxForm-1, not, boolean("p")), api.OK, api.ErrForm)
	wantSound(t, "a formula 201 deep", deep(api.MaxForm, not, boolean("p")), api.ErrDeep, api.ErrForm)
}

// P8.1: 16384 parts, and 16385.
func TestParts(t *testing.T) {
	wantSound(t, "a sum", add(repeated(api.MaxNodes-1, x())...), api.ErrForm, api.OK)
	wantSound(t, "a greater sum", add(repeated(api.MaxNodes, x())...), api.ErrForm, api.ErrLong)
	wantSound(t, "FOr", or(repeated((api.MaxNodes-1)/3, le(x(), y()))...), api.OK, api.ErrForm)
	wantSound(t, "a greater FOr", or(repeated((api.MaxNodes-1)/3+1, le(x(), y()))...), api.ErrLong, api.ErrForm)
	wantSound(t, "an atom", eq(f(repeated(api.MaxNodes-3, x())...), x()), api.OK, api.ErrForm)
	wantSound(t, "a greater atom", eq(f(repeated(api.MaxNodes-2, x())...), x()), api.ErrLong, api.ErrForm)
}

// P8.1: of several faults the first counts, each part ahead of its Args, these from the left; of one part's faults the first that the chapter names.
func TestFirstFault(t *testing.T) {
	digit, big, kind := form(api.TNum, "x"), form(api.TNum, power(api.MaxBits, 0).String()), form(77, "")
	sum := func(t api.Form) api.Form { return add(t) }
	tooDeep := deep(api.MaxForm, sum, x())
	full := repeated(api.MaxNodes-1, x())
	cases := []struct {
		what string
		tree api.Form
		want api.Errno
	}{
		{"from the left", add(digit, big, kind), api.ErrDigit},
		{"from the left", add(big, digit, kind), api.ErrBig},
		{"from the left", add(kind, digit), api.ErrForm},
		{"ahead of its Args", form(api.TMul, "y", kind), api.ErrDigit},
		{"as many Args ahead of the Name", form(api.TMul, "y", x(), digit), api.ErrForm},
		{"an Arg's Args ahead of the next Arg", add(add(add(), f(x(), digit)), kind), api.ErrDigit},
		{"deep ahead of what is behind it", add(tooDeep, digit), api.ErrDeep},
		{"deep behind what is ahead of it", add(digit, tooDeep), api.ErrDigit},
		{"deep ahead of the Kind", deep(api.MaxForm, sum, kind), api.ErrDeep},
		{"too many ahead of the Kind", add(append(full[:len(full):len(full)], kind)...), api.ErrLong},
		{"the Kind ahead of too many", add(append(full[:len(full)-1:len(full)-1], kind, x(), x())...), api.ErrForm},
		{"too many ahead of deep", add(add(full[2:]...), tooDeep), api.ErrLong},
		{"both at one part", add(add(full[api.MaxForm:]...), tooDeep), api.ErrDeep},
	}
	for _, c := range cases {
		if got := theory.IsTerm(c.tree); got != c.want {
			t.Errorf("%s: IsTerm: error %d; want %d", c.what, got, c.want)
		}
	}
	if got := theory.Sound(and(boolean("p"), le(x(), digit), kind)); got != api.ErrDigit {
		t.Errorf("Sound: error %d", got)
	}
	if got := theory.Sound(imp(not(x()), le(x(), digit))); got != api.ErrForm {
		t.Errorf("Sound: error %d", got)
	}
}

// listed: the parts of a tree, each ahead of its Args, with how many lie around each, and whether a term should be there.
type listed struct {
	part   api.Form
	around int
	term   bool
}

func parts(tree api.Form, around int, term bool) []listed {
	list := []listed{{tree, around, term}}
	for _, arg := range tree.Args {
		list = append(list, parts(arg, around+1, term || tree.Kind == api.FLe || tree.Kind == api.FEq)...)
	}
	return list
}

// fault: of the first part that has one.
func fault(list []listed) api.Errno {
	counts := map[int]int{api.TVar: 0, api.TNum: 0, api.TMul: 1, api.FBool: 0, api.FLe: 2, api.FEq: 2, api.FNot: 1, api.FImp: 2, api.FIff: 2, api.TAdd: -1, api.TApp: -1, api.FAnd: -1, api.FOr: -1}
	for i, p := range list {
		count, ok := counts[p.part.Kind]
		_, isText := isNumber(p.part.Name)
		switch {
		case p.around >= api.MaxForm:
			return api.ErrDeep
		case i >= api.MaxNodes:
			return api.ErrLong
		case !ok || p.term != (p.part.Kind < api.FBool) || count >= 0 && count != len(p.part.Args):
			return api.ErrForm
		case (p.part.Kind == api.TNum || p.part.Kind == api.TMul) && !isText:
			return api.ErrDigit
		}
	}
	return api.OK
}

// anyTree: with faults here and there.
func (d *dice) anyTree(depth int, term bool) api.Form {
	if d.next(40) == 0 {
		term = !term
	}
	kinds := []int{api.FBool, api.FLe, api.FEq, api.FNot, api.FAnd, api.FOr, api.FImp, api.FIff}
	if term {
		kinds = []int{api.TVar, api.TNum, api.TAdd, api.TMul, api.TApp}
	}
	kind := kinds[d.next(len(kinds))]
	tree := api.Form{Kind: kind, Name: []string{"1", "-3", "20", "", "x"}[d.next(3+d.next(20)/19*2)]}
	count := []int{0, 0, 0, 2, 1, 2}[min(kind, 5)]
	switch kind {
	case api.FLe, api.FEq, api.FImp, api.FIff, api.FAnd, api.FOr:
		count = 2
	case api.FNot:
		count = 1
	case api.FBool:
		count = 0
	}
	if d.next(40) == 0 {
		count += d.number(1)
	}
	if depth == 0 {
		count = 0
	}
	for range count {
		tree.Args = append(tree.Args, d.anyTree(depth-1, term || kind == api.FLe || kind == api.FEq))
	}
	return tree
}

// P8.1: held against a list of all parts.
func TestFaultsOfAnyTree(t *testing.T) {
	d := dice(3)
	var seen [200]int
	for range 20000 {
		tree := d.anyTree(d.next(6), d.next(2) == 0)
		formula, term := fault(parts(tree, 0, false)), fault(parts(tree, 0, true))
		seen[formula]++
		seen[term]++
		wantSound(t, show(tree), tree, formula, term)
	}
	for _, e := range []api.Errno{api.OK, api.ErrForm, api.ErrDigit} {
		if seen[e] < 100 {
			t.Errorf("only %d trees with the error %d", seen[e], e)
		}
	}
}
