package theory_test

import (
	"math"
	"slices"
	"strconv"
	"testing"

	"surety/api"
	"surety/theory"
)

func wantNoCheck(t *testing.T, what string, list []theory.Lit, want api.Errno) {
	t.Helper()
	a, err := theory.Check(list, enough)
	if err != want || a.Verdict != api.Unknown || a.Steps != 0 || len(a.Split)+len(a.Core)+len(a.Model.Vars)+len(a.Model.Funs) != 0 || !isNothing(a.Proof) {
		t.Errorf("%s: Check: %v, error %d; want error %d", what, a, err, want)
	}
}

// P8.5, P8.6: the chapter's examples.
func TestExamples(t *testing.T) {
	a := checked(t, lits(yes(eq(x(), y())), no(eq(f(x()), f(y())))), api.Unsat)
	if !slices.Equal(a.Core, []int{0, 1}) || !a.Proof.Apart {
		t.Errorf("the core is %v, the proof %v", a.Core, a.Proof)
	}
	b := checked(t, lits(yes(le(x(), y())), yes(le(y(), x())), yes(le(f(x()), add(f(y()), num(-1))))), api.Unknown)
	if len(b.Split) != 1 || show(b.Split[0]) != show(eq(x(), y())) {
		t.Errorf("the split is %v", b.Split)
	}
}

// P8.5: no literal, and literals without variables.
func TestCheckWithoutVariables(t *testing.T) {
	checked(t, nil, api.Sat)
	checked(t, lits(yes(le(num(1), num(2))), yes(le(num(2), num(2))), no(le(num(3), num(2))), yes(eq(num(2), add(num(1), num(1)))), no(eq(num(1), num(2))), yes(eq(add(), num(0)))), api.Sat)
	for _, bad := range []theory.Lit{yes(le(num(3), num(2))), no(le(num(2), num(2))), yes(eq(num(1), num(2))), no(eq(num(2), add(num(1), num(1)))), no(eq(add(), num(0))), no(eq(x(), x())), no(eq(f(add(x(), y())), f(add(y(), x())))), no(le(x(), x())), yes(le(add(x(), num(1)), x()))} {
		a := checked(t, lits(yes(le(num(1), x())), bad, yes(eq(z(), y()))), api.Unsat)
		if !slices.Equal(a.Core, []int{1}) {
			t.Errorf("%s: the core is %v", showLits(lits(bad)), a.Core)
		}
	}
}

// P8.5: the same literal twice, and beside its opposite.
func TestCheckTwice(t *testing.T) {
	for _, atom := range []api.Form{le(x(), y()), eq(x(), y()), le(f(x()), num(3)), eq(add(f(x()), y()), mul(3, z()))} {
		for _, neg := range []bool{false, true} {
			one := theory.Lit{Atom: atom, Neg: neg}
			checked(t, lits(one), api.Sat)
			checked(t, lits(one, one, one), api.Sat)
		}
		a := checked(t, lits(yes(atom), yes(le(z(), z())), no(atom)), api.Unsat)
		if !slices.Equal(a.Core, []int{0, 2}) {
			t.Errorf("%s: the core is %v", brief(atom), a.Core)
		}
	}
	checked(t, lits(yes(eq(x(), y())), no(eq(y(), x()))), api.Unsat)
	checked(t, lits(yes(eq(x(), y())), no(eq(y(), add(x(), z(), mul(-1, z()))))), api.Unsat)
}

// P8.5: literals that hold together.
func TestCheckSat(t *testing.T) {
	for _, list := range [][]theory.Lit{
		lits(yes(le(x(), num(-5))), yes(le(num(7), y()))),
		lits(no(eq(x(), y())), no(eq(y(), z())), no(eq(x(), z()))),
		lits(no(eq(x(), num(0))), yes(le(num(-1), x())), yes(le(x(), num(1)))),
		lits(yes(eq(f(x()), num(1))), yes(eq(f(y()), num(2)))),
		lits(yes(eq(f(x()), num(1))), yes(eq(f(f(x())), num(2))), yes(eq(f(f(f(x()))), num(3)))),
		lits(yes(eq(f(), num(1))), yes(eq(f(num(1)), num(2))), yes(eq(f(num(1), num(1)), num(3)))),
		lits(yes(eq(v("f"), num(5))), yes(eq(app("f"), num(6))), yes(eq(app("f", v("f")), num(7)))),
		lits(yes(eq(f(x(), y()), num(1))), yes(eq(f(y(), x()), num(2)))),
		lits(yes(le(f(x()), num(0))), yes(le(num(1), f(y()))), yes(le(x(), y()))),
		lits(yes(le(num(1), f(x()))), yes(le(num(2), f(y()))), yes(le(num(3), f(z())))),
		lits(no(eq(f(x()), f(y()))), no(eq(g(x()), g(z())))),
		lits(yes(eq(g(f(x())), num(4))), yes(eq(g(num(5)), num(3))), yes(le(num(5), f(x())))),
		lits(yes(eq(v(""), num(5))), yes(eq(app(""), num(6))), yes(eq(app("", v("")), num(7))), no(eq(app("(", v(", ")), app("(", v(" "))))),
		lits(yes(eq(add(mul(2, x()), mul(3, y())), num(1))), no(le(x(), num(100)))),
	} {
		checked(t, list, api.Sat)
	}
}

// P8.5: literals that don't, by what is the same, by rows, and by both.
func TestCheckUnsat(t *testing.T) {
	for _, c := range []struct {
		core []int
		list []theory.Lit
	}{
		{[]int{0, 1, 2}, lits(yes(eq(x(), y())), yes(eq(y(), z())), no(eq(f(z()), f(x()))))},
		{[]int{0, 1}, lits(yes(eq(x(), num(1))), yes(eq(x(), num(2))))},
		{[]int{1, 2, 3}, lits(yes(le(z(), z())), yes(eq(x(), y())), yes(eq(f(x()), num(1))), yes(eq(f(y()), num(2))))},
		{[]int{0, 1}, lits(yes(eq(x(), add(y(), num(1)))), no(eq(f(add(num(1), y())), f(x()))))},
		{[]int{0, 1, 3}, lits(yes(le(x(), y())), yes(le(y(), z())), no(eq(x(), y())), less(z(), x()))},
		{[]int{0, 2}, lits(yes(le(mul(2, x()), num(1))), yes(le(y(), x())), yes(le(num(1), mul(2, x()))))},
		{[]int{0, 1, 2}, lits(yes(le(x(), y())), yes(le(y(), x())), no(eq(y(), x())))},
		{[]int{0, 1}, lits(yes(eq(x(), y())), yes(le(f(x()), add(f(y()), num(-1)))))},
		{[]int{0, 1, 3}, lits(yes(eq(x(), y())), yes(le(f(x()), z())), yes(le(x(), z())), less(z(), f(y())))},
		{[]int{0, 1}, lits(yes(eq(mul(2, x()), num(1))), yes(le(num(0), num(0))))},
		{[]int{0, 1, 2, 3, 5}, lits(yes(le(num(0), x())), yes(le(x(), num(9))), yes(eq(z(), add(mul(6, x()), mul(-10, y())))), yes(le(num(1), z())), yes(le(v("w"), num(3))), yes(le(z(), num(1))))},
		{[]int{0, 1, 2, 3}, lits(yes(le(num(0), x())), yes(le(x(), num(1))), no(eq(x(), num(0))), no(eq(x(), num(1))))},
		{[]int{0, 1, 2}, lits(yes(eq(f(f(x())), x())), yes(eq(f(f(f(x()))), x())), no(eq(f(x()), x())))},
		{[]int{0, 1}, lits(yes(eq(x(), y())), less(add(f(x()), g(x())), add(g(y()), f(y()))))},
	} {
		a := checked(t, c.list, api.Unsat)
		for _, place := range a.Core {
			if !slices.Contains(c.core, place) {
				t.Errorf("%s: the core is %v", showLits(c.list), a.Core)
			}
		}
	}
}

// decided: what literals come to when each split is decided, first so, then the other way.
func decided(t testing.TB, list []theory.Lit, splits int) api.Verdict {
	t.Helper()
	a := check(t, list, enough)
	if a.Verdict != api.Unknown || len(a.Split) == 0 || splits == 0 {
		return a.Verdict
	}
	all := api.Unsat
	for _, neg := range []bool{false, true} {
		kid := decided(t, append(slices.Clone(list), theory.Lit{Atom: a.Split[0], Neg: neg}), splits-1)
		if kid == api.Sat {
			return kid
		}
		if kid == api.Unknown {
			all = kid
		}
	}
	return all
}

// P8.5: what is the same by rows alone is asked for, till all is shown.
func TestSplits(t *testing.T) {
	forced := lits(yes(le(x(), y())), yes(le(y(), z())), yes(le(z(), x())))
	for _, list := range [][]theory.Lit{
		lits(yes(le(x(), y())), yes(le(y(), x())), yes(le(f(x()), add(f(y()), num(-1))))),
		append(slices.Clone(forced), no(eq(f(x()), f(z())))),
		lits(yes(le(x(), y())), yes(le(y(), z())), yes(le(z(), v("w"))), yes(le(v("w"), x())), no(eq(x(), z()))),
		append(slices.Clone(forced), no(eq(f(f(x())), f(f(y()))))),
		append(slices.Clone(forced), no(eq(g(x(), y()), g(z(), x())))),
		lits(yes(eq(add(x(), num(1)), add(y(), num(1)))), no(eq(f(x()), f(y())))),
		lits(yes(le(num(3), x())), yes(le(x(), num(3))), no(eq(f(x()), f(num(3))))),
		lits(yes(le(num(0), x())), yes(le(x(), num(2))), no(eq(num(0), x())), no(eq(x(), num(1))), no(eq(x(), num(2)))),
		lits(yes(le(num(0), x())), yes(le(x(), num(1))), yes(eq(f(num(0)), f(num(1)))), no(eq(f(x()), f(num(0))))),
		lits(yes(eq(y(), add(x(), num(1)))), yes(eq(z(), add(y(), num(1)))), no(eq(f(z()), f(add(x(), num(2)))))),
	} {
		if a := checked(t, list, api.Unknown); len(a.Split) != 1 {
			t.Errorf("%s: no split", showLits(list))
		}
		if got := decided(t, list, 8); got != api.Unsat {
			t.Errorf("%s: decided, it is %d", showLits(list), got)
		}
	}
}

// P8.5: a split of two terms that are too much for one formula isn't told.
func TestSplitTooLong(t *testing.T) {
	long := func(name string) api.Form { return add(append(repeated(api.MaxNodes-10, num(0)), v(name))...) }
	list := lits(yes(le(x(), y())), yes(le(y(), x())), yes(le(f(long("x")), z())), less(z(), f(long("y"))))
	a := checked(t, list, api.Unknown)
	if len(a.Split) != 0 {
		t.Errorf("the split has %d parts", len(a.Split[0].Args))
	}
}

// P8.5: the errors, in their order, of the first literal that has one.
func TestCheckRefuses(t *testing.T) {
	digit, kind := form(api.TNum, "x"), form(77, "")
	tooBig := mul(2, bigMul(power(1023, 0), x()))
	good := yes(le(x(), y()))
	many := slices.Repeat(lits(good), api.MaxRows)
	checked(t, many, api.Sat)
	wantNoCheck(t, "too many", append(many, yes(kind)), api.ErrLong)
	wantNoCheck(t, "too many", append(lits(yes(kind)), many...), api.ErrLong)
	wantNoCheck(t, "a fault", lits(good, yes(le(x(), digit)), yes(and())), api.ErrDigit)
	wantNoCheck(t, "a fault of an opposite", lits(good, no(le(x(), digit))), api.ErrDigit)
	wantNoCheck(t, "a term", lits(good, yes(x())), api.ErrForm)
	wantNoCheck(t, "nothing", lits(theory.Lit{}), api.ErrForm)
	for _, atom := range []api.Form{boolean("p"), not(le(x(), y())), and(), or(eq(x(), y())), imp(and(), and()), iff(or(), or())} {
		wantNoCheck(t, "no atom", lits(good, yes(atom), yes(kind)), api.ErrAtom)
		wantNoCheck(t, "no atom", lits(good, no(atom), yes(le(tooBig, x()))), api.ErrAtom)
	}
	wantNoCheck(t, "a fault in what is no atom", lits(yes(not(le(x(), kind)))), api.ErrForm)
	wantNoCheck(t, "a sum's number", lits(good, yes(le(tooBig, x())), yes(and())), api.ErrBig)
	wantNoCheck(t, "the other sum's number", lits(good, no(eq(x(), tooBig)), yes(kind)), api.ErrBig)
	wantNoCheck(t, "in an argument", lits(yes(le(f(tooBig), x())), yes(kind)), api.ErrBig)
	wantNoCheck(t, "on the way", lits(yes(le(add(bigNum(most()), num(1), num(-1)), x()))), api.ErrBig)
	wantNoCheck(t, "deep", lits(yes(eq(x(), deep(api.MaxForm-1, func(t api.Form) api.Form { return f(t) }, x())))), api.ErrDeep)
	wantNoCheck(t, "long", lits(yes(eq(x(), f(repeated(api.MaxNodes-2, x())...)))), api.ErrLong)
}

// P8.5: as many variables and functions as there may be, and one more.
func TestCheckMaxVars(t *testing.T) {
	all := variables(api.MaxVars)
	full := yes(le(add(all...), num(-1)))
	checked(t, lits(full), api.Sat)
	checked(t, lits(yes(eq(all[5], all[6])), full, no(eq(all[7], all[6]))), api.Sat)
	for _, atom := range []api.Form{eq(v("more"), x()), le(num(0), f()), eq(f(all[0]), num(0)), le(mul(0, v("more")), num(0))} {
		wantNoCheck(t, "one more", lits(full, yes(atom)), api.ErrVar)
	}
	wantNoCheck(t, "one more in one", lits(yes(le(add(append(all, v("more"))...), num(0)))), api.ErrVar)
	wantNoCheck(t, "a fault ahead", lits(full, yes(and()), yes(le(f(), x()))), api.ErrAtom)
	// more arguments that are numbers than a graph has nodes
	list := numbers(api.MaxNodes - 4)
	checked(t, lits(yes(eq(f(list...), num(1))), yes(eq(g(list[:api.MaxNodes/2]...), num(2))), no(eq(f(list[:8000]...), f(list[1:8001]...)))), api.Sat)
}

// P8.5: where numbers or rows become too many on the way, it is refused, or nothing wrong is told.
func TestCheckTooLarge(t *testing.T) {
	top := bigNum(most())
	bottom := bigNum(minus(most()))
	for _, list := range [][]theory.Lit{
		lits(yes(le(bottom, top))),
		lits(no(le(top, bottom))),
		lits(no(le(x(), top)), yes(le(x(), num(0)))),
		lits(no(le(x(), top))),
		lits(no(eq(top, bottom))),
		lits(yes(le(bigMul(most(), x()), bigMul(minus(most()), x())))),
		lits(yes(eq(x(), top)), yes(le(x(), y())), no(eq(y(), x()))),
		lits(yes(le(num(0), add(x(), y()))), yes(eq(x(), top)), yes(eq(y(), num(1)))),
		lits(yes(le(f(add(x(), y())), z())), yes(eq(x(), top)), yes(eq(y(), num(1)))),
	} {
		a, err := theory.Check(list, enough)
		if err != api.OK {
			if err != api.ErrBig {
				t.Errorf("%s: error %d", showLits(list), err)
			}
			continue
		}
		wantBorneOut(t, list, a)
	}
	all := variables(api.MaxVars)
	var chain []theory.Lit
	for i := range api.MaxVars - 1 {
		chain = append(chain, yes(eq(all[i], all[i+1])))
	}
	if a, err := theory.Check(chain, enough); err != api.ErrLong && (err != api.OK || a.Verdict == api.Unsat) {
		t.Errorf("a long chain: verdict %d, error %d", a.Verdict, err)
	}
	a := checked(t, append(chain, no(eq(all[0], all[api.MaxVars-1]))), api.Unsat)
	if len(a.Core) != api.MaxVars {
		t.Errorf("a core of %d literals", len(a.Core))
	}
	checked(t, chain[:api.MaxRows/2], api.Sat)
	checked(t, slices.Repeat(lits(yes(eq(x(), y())), yes(eq(f(y()), f(x())))), api.MaxRows/2), api.Sat)
}

// P8.5: numbers of MaxBits bits.
func TestCheckLargeNumbers(t *testing.T) {
	top := bigNum(most())
	checked(t, lits(yes(eq(x(), top)), yes(eq(f(x()), mul(-1, top)))), api.Sat)
	checked(t, lits(yes(eq(x(), top)), no(eq(f(x()), f(top)))), api.Unsat)
	checked(t, lits(yes(le(top, x())), yes(le(x(), add(top, num(-1))))), api.Unsat)
	checked(t, lits(yes(eq(x(), top)), yes(eq(x(), mul(-1, top)))), api.Unsat)
	// no model holds what is too large to be reckoned
	beyond := add(x(), y(), num(-1), num(-1))
	for _, l := range lits(yes(le(num(0), beyond)), no(le(beyond, num(0))), no(eq(beyond, num(0))), no(eq(num(0), f(beyond)))) {
		if a := check(t, lits(yes(eq(x(), top)), yes(le(num(1), y())), l), enough); a.Verdict == api.Sat {
			t.Errorf("%s: verdict %d", showLits(lits(l)), a.Verdict)
		}
	}
}

// P8.5: many literals that are broken at first values, or functions that would have two values, are seen to together, so that it takes few steps.
func TestManyQuarrels(t *testing.T) {
	all := variables(60)
	var values, apart, nought []theory.Lit
	for i, one := range all {
		values = append(values, yes(eq(f(num(3), one), num(i))))
		nought = append(nought, no(eq(one, num(0))))
		for _, other := range all[:i] {
			apart = append(apart, no(eq(one, other)))
		}
	}
	for _, list := range [][]theory.Lit{values, apart, nought} {
		if a := check(t, list, 200); a.Verdict != api.Sat {
			t.Errorf("%s: verdict %d", showLits(list), a.Verdict)
		}
	}
}

// many: literals that take some steps, and some guesses.
func many() [][]theory.Lit {
	var apart []theory.Lit
	for i := range 7 {
		for j := range i {
			apart = append(apart, no(eq(v("x"+strconv.Itoa(i)), v("x"+strconv.Itoa(j)))))
		}
	}
	var values []theory.Lit
	for i := range 9 {
		values = append(values, yes(eq(f(v("x"+strconv.Itoa(i))), num(i))))
	}
	var bounded []theory.Lit
	for i := range 6 {
		bounded = append(bounded, yes(le(num(0), v("x"+strconv.Itoa(i)))), yes(le(v("x"+strconv.Itoa(i)), num(3))))
	}
	return [][]theory.Lit{
		apart, values, append(bounded, apart...),
		lits(yes(le(x(), y())), yes(le(y(), x())), yes(le(f(x()), add(f(y()), num(-1))))),
		lits(yes(le(x(), y())), yes(le(y(), z())), less(z(), x())),
		lits(yes(le(num(1), x())), yes(le(x(), y())), yes(le(add(x(), y()), num(7))), no(eq(x(), y()))),
		lits(yes(le(num(0), x())), yes(le(x(), num(9))), yes(eq(add(mul(6, x()), mul(-10, y())), z())), yes(le(num(1), z())), yes(le(z(), num(1)))),
		lits(yes(eq(f(x()), num(1))), yes(eq(f(y()), num(2))), no(eq(x(), y()))),
	}
}

// P8.5: budgets of 0, below 0, of 1, and up to what is enough; Steps is at most that, and 0 below 0.
func TestBudgets(t *testing.T) {
	for _, list := range many() {
		full := check(t, list, enough)
		for _, budget := range []int{math.MinInt, -1, 0, 1, 2, 3, full.Steps - 1} {
			a := check(t, list, budget)
			if a.Verdict != api.Unknown && a.Verdict != full.Verdict && full.Verdict != api.Unknown {
				t.Errorf("%s: %d with a budget of %d, else %d", showLits(list), a.Verdict, budget, full.Verdict)
			}
		}
		for _, budget := range []int{full.Steps, full.Steps + 1, math.MaxInt} {
			if a := check(t, list, budget); told(a) != told(full) {
				t.Errorf("%s: with a budget of %d\n%s, else\n%s", showLits(list), budget, told(a), told(full))
			}
		}
	}
	// what needs no step is told without a budget
	for _, budget := range []int{math.MinInt, -1, 0} {
		if a := check(t, lits(yes(eq(x(), y())), no(eq(f(x()), f(y())))), budget); a.Verdict != api.Unsat || a.Steps != 0 {
			t.Errorf("verdict %d, %d steps", a.Verdict, a.Steps)
		}
		if a := check(t, nil, budget); a.Verdict != api.Sat || a.Steps != 0 {
			t.Errorf("verdict %d, %d steps", a.Verdict, a.Steps)
		}
	}
}

// anyLits: over few names.
func (d *dice) anyLits(most int) []theory.Lit {
	var list []theory.Lit
	for range 1 + d.next(most) {
		list = append(list, theory.Lit{Atom: form(api.FLe+d.next(2), "", d.smallTerm(2), d.smallTerm(2)), Neg: d.next(3) == 0})
	}
	return list
}

// P8.5: whatever the literals, the answer is borne out; and few stay open when the splits are decided.
func TestCheckOfAnything(t *testing.T) {
	d := dice(17)
	var first, last [3]int
	for range 4000 {
		list := d.anyLits(8)
		first[check(t, list, enough).Verdict]++
		last[decided(t, list, 12)]++
	}
	if first[api.Sat] < 1000 || first[api.Unsat] < 400 || first[api.Unknown] > 200 || last[api.Unknown] > 20 {
		t.Errorf("verdicts %v, decided %v", first, last)
	}
}
