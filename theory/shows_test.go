package theory_test

import (
	"math"
	"slices"
	"testing"

	"surety/api"
	"surety/theory"
)

func wantShows(t *testing.T, what string, list []theory.Lit, p theory.Proof) {
	t.Helper()
	if err := theory.Shows(list, p); err != api.OK {
		t.Errorf("%s: Shows: error %d", what, err)
	}
}

func wantShowsNot(t *testing.T, what string, list []theory.Lit, p theory.Proof) {
	t.Helper()
	if err := theory.Shows(list, p); err == api.OK {
		t.Errorf("%s: Shows takes %v of %s", what, p, showLits(list))
	}
}

func step(kind int, places ...int) theory.Step { return theory.Step{Kind: kind, Lits: places} }

func sameStep(a, b api.Form, places ...int) theory.Step {
	return theory.Step{Kind: theory.OfSame, Lits: places, A: a, B: b}
}

// ones: a leaf that takes each of so many rows once.
func ones(count int) api.Branch {
	b := api.Branch{Leaf: true}
	for i := range count {
		b.Parts = append(b.Parts, api.Part{Row: i, Mult: "1"})
	}
	return b
}

// byRows: all of whose rows are taken once.
func byRows(steps ...theory.Step) theory.Proof {
	return theory.Proof{Steps: steps, Tree: ones(len(steps))}
}

func apart(bad int, a, b api.Form, places ...int) theory.Proof {
	return theory.Proof{Apart: true, Bad: bad, A: a, B: b, Lits: places}
}

// P8.6: proofs of what is the same, and may not be.
func TestShowsApart(t *testing.T) {
	list := lits(yes(eq(x(), y())), no(eq(f(x()), f(y()))), yes(eq(x(), num(1))), yes(eq(num(2), y())), no(eq(x(), x())), yes(le(x(), y())), no(le(x(), y())), yes(eq(z(), f(x()))))
	wantShows(t, "the chapter's", list, apart(1, f(x()), f(y()), 0))
	wantShows(t, "the other way round", list, apart(1, f(y()), f(x()), 0))
	wantShows(t, "more than is needed", list, apart(1, f(x()), f(y()), 0, 2, 3, 7, 0))
	wantShows(t, "alike", list, apart(1, f(add(x(), num(1), num(-1))), f(y()), 0))
	wantShows(t, "by two numbers", list, apart(1, f(x()), f(y()), 3, 2, 0))
	wantShows(t, "numbers", list, apart(-1, num(1), num(2), 0, 2, 3))
	wantShows(t, "numbers", list, apart(math.MinInt, num(2), num(1), 3, 2, 0))
	wantShows(t, "itself", list, apart(4, x(), x()))
	spare := apart(1, f(x()), f(y()), 0)
	spare.Steps, spare.Tree = []theory.Step{step(77, -1)}, api.Branch{Var: -9}
	wantShows(t, "with rows beside it", list, spare)

	wantShowsNot(t, "without the equation", list, apart(1, f(x()), f(y())))
	wantShowsNot(t, "by another equation", list, apart(1, f(x()), f(y()), 2))
	wantShowsNot(t, "of others", list, apart(1, x(), y(), 0))
	wantShowsNot(t, "of others", list, apart(1, f(x()), z(), 7))
	wantShowsNot(t, "bad isn't an opposite", list, apart(0, x(), y(), 0))
	wantShowsNot(t, "bad isn't an equation", list, apart(5, x(), y(), 0))
	wantShowsNot(t, "alike numbers", list, apart(-1, num(1), num(1)))
	wantShowsNot(t, "one number", list, apart(-1, num(1), x(), 2))
	wantShowsNot(t, "no numbers", list, apart(-1, x(), y(), 0))
	wantShowsNot(t, "numbers without a reason", list, apart(-1, num(1), num(2), 0, 2))
	wantShowsNot(t, "an opposite for an equation", list, apart(1, f(x()), f(y()), 1))
	wantShowsNot(t, "an opposite beside it", list, apart(1, f(x()), f(y()), 0, 1))
	wantShowsNot(t, "a row for an equation", list, apart(1, f(x()), f(y()), 0, 5))
	for _, place := range []int{-1, len(list), math.MaxInt, math.MinInt} {
		wantShowsNot(t, "no place", list, apart(1, f(x()), f(y()), 0, place))
		if place > 0 {
			wantShowsNot(t, "no bad place", list, apart(place, f(x()), f(y()), 0))
		}
	}
	for _, odd := range []api.Form{{}, form(api.TNum, "x"), le(x(), y()), form(api.TMul, "2"), deep(api.MaxForm, func(t api.Form) api.Form { return f(t) }, x())} {
		wantShowsNot(t, "no term", list, apart(1, odd, f(y()), 0))
		wantShowsNot(t, "no term", list, apart(1, f(x()), odd, 0))
		wantShowsNot(t, "no term", list, apart(-1, odd, odd, 0))
	}
	wantShowsNot(t, "without a reason to be apart", list[:1], apart(-1, f(x()), f(y()), 0))
	wantShowsNot(t, "of no literals", nil, apart(0, x(), x()))
}

// P8.6: each kind of row.
func TestShowsRows(t *testing.T) {
	list := lits(
		yes(le(x(), y())),                       // 0
		no(le(x(), y())),                        // 1
		yes(eq(x(), y())),                       // 2
		no(eq(y(), x())),                        // 3
		yes(le(y(), x())),                       // 4
		yes(le(add(y(), num(1)), x())),          // 5
		yes(le(add(x(), num(1)), y())),          // 6
		yes(le(add(f(x()), num(1)), f(y()))),    // 7
		yes(eq(x(), z())),                       // 8
		no(eq(x(), y())),                        // 9
		yes(le(add(num(3), f(z())), f(x()))),    // 10
		no(eq(add(x(), z()), add(y(), z()))),    // 11
		yes(le(mul(2, x()), mul(2, num(1)))),    // 12
		yes(le(num(3), mul(2, x()))),            // 13
		yes(le(x(), add(y(), num(-1), num(1)))), // 14
	)
	wantShows(t, "OfLess of both signs", list, byRows(step(theory.OfLess, 0), step(theory.OfLess, 1)))
	wantShows(t, "OfLess", list, byRows(step(theory.OfLess, 5), step(theory.OfLess, 0)))
	wantShows(t, "OfLeft", list, byRows(step(theory.OfLeft, 2), step(theory.OfLess, 5)))
	wantShows(t, "OfRight", list, byRows(step(theory.OfRight, 2), step(theory.OfLess, 6)))
	wantShows(t, "OfApart", list, byRows(step(theory.OfApart, 0, 3), step(theory.OfLess, 4)))
	wantShows(t, "OfApart", list, byRows(step(theory.OfApart, 4, 9), step(theory.OfLess, 0)))
	wantShows(t, "OfApart of alike terms", list, byRows(step(theory.OfApart, 14, 3), step(theory.OfLess, 4)))
	wantShows(t, "OfSame", list, byRows(sameStep(f(y()), f(x()), 2), step(theory.OfLess, 7)))
	wantShows(t, "OfSame", list, byRows(step(theory.OfLess, 10), sameStep(f(x()), f(z()), 8)))
	wantShows(t, "made tight", list, byRows(step(theory.OfLess, 12), step(theory.OfLess, 13)))
	spare := byRows(step(theory.OfLess, 0), step(theory.OfLess, 1))
	spare.Bad, spare.Lits, spare.A, spare.B = -7, []int{-3}, form(77, ""), le(x(), y())
	wantShows(t, "with what is apart beside it", list, spare)
	unused := theory.Proof{Steps: []theory.Step{step(theory.OfLess, 0), step(theory.OfLess, 1), step(theory.OfLeft, 2)}, Tree: ones(2)}
	wantShows(t, "with a row that isn't taken", list, unused)
	only := byRows(step(theory.OfLess, 0), step(theory.OfLess, 1))
	wantShows(t, "where others aren't formulas", append(slices.Clone(list), yes(form(77, ""))), only)

	for what, p := range map[string]theory.Proof{
		"the other side of an equation": byRows(step(theory.OfRight, 2), step(theory.OfLess, 5)),
		"the other side of an Equation": byRows(step(theory.OfLeft, 2), step(theory.OfLess, 6)),
		"rows that hold":                byRows(step(theory.OfLess, 0), step(theory.OfLess, 4)),
		"an opposite as an equation":    byRows(step(theory.OfLeft, 3), step(theory.OfLess, 6)),
		"an opposite as an Equation":    byRows(step(theory.OfRight, 9), step(theory.OfLess, 6)),
		"an equation as a row":          byRows(step(theory.OfLess, 2), step(theory.OfLess, 5)),
		"an opposite as a row":          byRows(step(theory.OfLess, 9), step(theory.OfLess, 5)),
		"a row as an equation":          byRows(step(theory.OfLeft, 0), step(theory.OfLess, 5)),
		"OfApart of an equation":        byRows(step(theory.OfApart, 0, 2), step(theory.OfLess, 4)),
		"OfApart of an opposite":        byRows(step(theory.OfApart, 1, 3), step(theory.OfLess, 4)),
		"OfApart of other terms":        byRows(step(theory.OfApart, 12, 3), step(theory.OfLess, 4)),
		"OfApart of one":                byRows(step(theory.OfApart, 0), step(theory.OfLess, 4)),
		"OfApart of two rows":           byRows(step(theory.OfApart, 0, 4), step(theory.OfLess, 4)),
		"OfApart turned":                byRows(step(theory.OfApart, 4, 3), step(theory.OfLess, 4)),
		"OfSame without a reason":       byRows(sameStep(f(y()), f(x())), step(theory.OfLess, 7)),
		"OfSame for another reason":     byRows(sameStep(f(y()), f(x()), 8), step(theory.OfLess, 7)),
		"OfSame by an opposite":         byRows(sameStep(f(y()), f(x()), 2, 3), step(theory.OfLess, 7)),
		"OfSame by a row":               byRows(sameStep(f(y()), f(x()), 0), step(theory.OfLess, 7)),
		"OfSame turned":                 byRows(sameStep(f(x()), f(y()), 2), step(theory.OfLess, 7)),
		"OfSame of no term":             byRows(sameStep(f(y()), form(77, ""), 2), step(theory.OfLess, 7)),
		"OfSame of a formula":           byRows(sameStep(le(x(), y()), f(x()), 2), step(theory.OfLess, 7)),
		"OfSame of nothing":             byRows(step(theory.OfSame, 2), step(theory.OfLess, 7)),
		"no literal":                    byRows(step(theory.OfLess), step(theory.OfLess, 1)),
		"no kind":                       byRows(step(0, 0), step(theory.OfLess, 1)),
		"another kind":                  byRows(step(6, 0), step(theory.OfLess, 1)),
		"no kind at all":                byRows(step(-1, 0), step(theory.OfLess, 1)),
		"no rows":                       byRows(),
		"nothing":                       {},
	} {
		wantShowsNot(t, what, list, p)
	}
}

// P8.6: places that aren't there, and trees that don't show it.
func TestShowsPlaces(t *testing.T) {
	list := lits(yes(le(x(), y())), no(le(x(), y())), yes(eq(x(), y())), no(eq(x(), y())), less(f(x()), f(y())))
	good := byRows(step(theory.OfLess, 0), step(theory.OfLess, 1))
	wantShows(t, "as it is", list, good)
	for _, place := range []int{-1, len(list), math.MaxInt, math.MinInt} {
		for _, kind := range []int{theory.OfLess, theory.OfLeft, theory.OfRight} {
			wantShowsNot(t, "no place", list, byRows(step(kind, place), step(theory.OfLess, 1)))
			wantShowsNot(t, "no place of a row that isn't taken", list, theory.Proof{Steps: append(slices.Clone(good.Steps), step(kind, place)), Tree: ones(2)})
		}
		wantShowsNot(t, "no place", list, byRows(step(theory.OfApart, place, 3), step(theory.OfLess, 1)))
		wantShowsNot(t, "no place", list, byRows(step(theory.OfApart, 0, place), step(theory.OfLess, 1)))
		wantShowsNot(t, "no place", list, byRows(sameStep(f(y()), f(x()), 2, place), step(theory.OfLess, 4)))
		tree := ones(2)
		tree.Parts[1].Row = place
		wantShowsNot(t, "no row", list, theory.Proof{Steps: good.Steps, Tree: tree})
	}
	for _, mult := range []string{"0", "-1", "2", "1/2", "", "x"} {
		tree := ones(2)
		tree.Parts[1].Mult = mult
		wantShowsNot(t, "a factor of "+mult, list, theory.Proof{Steps: good.Steps, Tree: tree})
	}
	wantShowsNot(t, "one row", list, theory.Proof{Steps: good.Steps, Tree: ones(1)})
	wantShowsNot(t, "no row", list, theory.Proof{Steps: good.Steps, Tree: ones(0)})
	wantShowsNot(t, "no tree", list, theory.Proof{Steps: good.Steps})
	wantShowsNot(t, "an empty split", list, theory.Proof{Steps: good.Steps, Tree: api.Branch{Split: "0"}})
	wantShowsNot(t, "one kid", list, theory.Proof{Steps: good.Steps, Tree: api.Branch{Split: "0", Kids: []api.Branch{ones(2)}}})
	wantShows(t, "a split that isn't needed", list, theory.Proof{Steps: good.Steps, Tree: api.Branch{Split: "0", Kids: []api.Branch{ones(2), ones(2)}}})
	faulty := slices.Clone(list)
	faulty[1] = no(le(x(), form(api.TVar, "y", x())))
	wantShowsNot(t, "a literal that is no formula", faulty, good)
}

// P8.6: a proof by splits, as Check tells it, and what shows nothing any more if it is changed.
func TestShowsTree(t *testing.T) {
	list := lits(yes(le(num(0), x())), yes(le(x(), num(9))), yes(eq(z(), add(mul(6, x()), mul(-10, y())))), yes(le(num(1), z())), yes(le(z(), num(1))))
	a := checked(t, list, api.Unsat)
	if a.Proof.Apart || a.Proof.Tree.Leaf {
		t.Fatalf("no splits: %v", a.Proof)
	}
	cut := a.Proof
	cut.Tree.Kids = []api.Branch{a.Proof.Tree.Kids[0]}
	wantShowsNot(t, "one kid", list, cut)
	cut.Tree.Kids = []api.Branch{a.Proof.Tree.Kids[1], a.Proof.Tree.Kids[0]}
	wantShowsNot(t, "kids turned", list, cut)
	far := a.Proof
	far.Tree.Var = api.MaxVars
	wantShowsNot(t, "no variable", list, far)
	for i := range a.Proof.Steps {
		less := a.Proof
		less.Steps = slices.Delete(slices.Clone(a.Proof.Steps), i, i+1)
		wantShowsNot(t, "a row less", list, less)
	}
	for i := range list {
		other := slices.Clone(list)
		other[i] = yes(le(x(), y()))
		wantShowsNot(t, "another literal", other, a.Proof)
	}
}

// P8.6: what is shown hangs on no literal that the proof doesn't name.
func TestShowsElsewhere(t *testing.T) {
	d := dice(19)
	shown := 0
	for range 1500 {
		list := d.anyLits(8)
		a := check(t, list, enough)
		if a.Verdict != api.Unsat {
			continue
		}
		shown++
		other := d.anyLits(8)
		for i := range list {
			if _, ok := slices.BinarySearch(a.Core, i); ok || i >= len(other) {
				continue
			}
			list[i] = other[i]
		}
		wantShows(t, "others changed", list, a.Proof)
	}
	if shown < 150 {
		t.Errorf("only %d proofs", shown)
	}
}
