package theory_test

import (
	"math/big"
	"strconv"
	"testing"

	"surety/api"
	"surety/theory"
)

func wantValue(t *testing.T, tree api.Form, m api.Model, want string) {
	t.Helper()
	got, err := theory.Value(tree, m)
	if err != api.OK || got.Text() != want {
		t.Errorf("Value(%s): %s, error %d; want %s", brief(tree), got.Text(), err, want)
	}
}

func wantNoValue(t *testing.T, tree api.Form, m api.Model, want api.Errno) {
	t.Helper()
	got, err := theory.Value(tree, m)
	if err != want || got.Sign() != 0 {
		t.Errorf("Value: %s, error %d; want error %d", got.Text(), err, want)
	}
}

func wantTrue(t *testing.T, tree api.Form, m api.Model, want bool) {
	t.Helper()
	got, err := theory.True(tree, m)
	if err != api.OK || got != want {
		t.Errorf("True(%s): %t, error %d; want %t", brief(tree), got, err, want)
	}
}

func wantNotTrue(t *testing.T, tree api.Form, m api.Model, want api.Errno) {
	t.Helper()
	got, err := theory.True(tree, m)
	if err != want || got {
		t.Errorf("True: %t, error %d; want error %d", got, err, want)
	}
}

// P8.2: what a model names, and what none does.
func TestValue(t *testing.T) {
	m := api.Model{
		Vars:  []api.Value{value("x", "5"), value("y", "-3"), value("", "11")},
		Bools: []api.Value{value("x", "1")},
		Funs:  []api.Entry{entry("f", "7"), entry("f", "8", "5"), entry("f", "9", "5", "-3"), entry("g", "-1", "8")},
	}
	wantValue(t, x(), m, "5")
	wantValue(t, v(""), m, "11")
	wantValue(t, z(), m, "0")
	wantValue(t, num(-12), m, "-12")
	wantValue(t, add(), m, "0")
	wantValue(t, add(x(), y(), num(100), x()), m, "107")
	wantValue(t, mul(-4, y()), m, "12")
	wantValue(t, f(), m, "7")
	wantValue(t, f(x()), m, "8")
	wantValue(t, f(add(num(2), num(3))), m, "8")
	wantValue(t, f(x(), y()), m, "9")
	wantValue(t, f(y(), x()), m, "0")
	wantValue(t, g(f(x())), m, "-1")
	wantValue(t, g(f(y())), m, "0")
	wantValue(t, app("x"), m, "0")
	wantValue(t, v("f"), m, "0")
	wantValue(t, form(api.TAdd, "7", x()), m, "5")
	wantValue(t, add(x()), api.Model{}, "0")
}

// P8.2: the first that names it counts, whatever stands there; a text that is no number's is 0.
func TestFirstNameCounts(t *testing.T) {
	m := api.Model{
		Vars:  []api.Value{value("x", "1"), value("x", "2"), value("y", "two"), value("y", "2")},
		Bools: []api.Value{value("p", "0"), value("p", "1"), value("q", "1"), value("q", "0"), value("r", "x"), value("r", "1")},
		Funs:  []api.Entry{entry("f", "3", "1"), entry("f", "4", "1"), entry("f", "", "2"), entry("f", "5", "2"), entry("g", "6", "01"), entry("g", "7", "1")},
	}
	wantValue(t, x(), m, "1")
	wantValue(t, y(), m, "0")
	wantValue(t, f(num(1)), m, "3")
	wantValue(t, f(num(2)), m, "0")
	wantValue(t, g(num(1)), m, "7")
	wantTrue(t, boolean("p"), m, false)
	wantTrue(t, boolean("q"), m, true)
	wantTrue(t, boolean("r"), m, false)
	for _, text := range []string{"", "-0", "01", "+1", " 1", "1 ", "0x1", "1/1", power(api.MaxBits, 0).String()} {
		m := api.Model{Vars: []api.Value{value("x", text)}, Bools: []api.Value{value("x", text)}, Funs: []api.Entry{entry("f", text, "1"), entry("g", "5", text)}}
		wantValue(t, x(), m, "0")
		wantValue(t, f(num(1)), m, "0")
		wantValue(t, g(num(1)), m, "0")
		wantValue(t, g(num(0)), m, "0")
		wantTrue(t, boolean("x"), m, false)
	}
	for _, text := range []string{"0", "2", "-1", "10"} {
		wantTrue(t, boolean("x"), api.Model{Bools: []api.Value{value("x", text)}}, false)
	}
}

// P8.2: names with signs in them aren't taken for others.
func TestOddNames(t *testing.T) {
	names := []string{"", " ", ",", "(", ")", "f", "f(", "1", "1:", "1:f", "f1:1", "f, 1", "f 1", "1,1"}
	var m api.Model
	for i, name := range names {
		m.Funs = append(m.Funs, entry(name, strconv.Itoa(100+i)), entry(name, strconv.Itoa(200+i), "1"), entry(name, strconv.Itoa(300+i), "1", "1"), entry(name, "9", "1,1"), entry(name, "9", "1", ""), entry(name, "9", "11"))
		m.Vars = append(m.Vars, value(name, strconv.Itoa(i)))
	}
	for i, name := range names {
		wantValue(t, app(name), m, strconv.Itoa(100+i))
		wantValue(t, app(name, num(1)), m, strconv.Itoa(200+i))
		wantValue(t, app(name, num(1), num(1)), m, strconv.Itoa(300+i))
		wantValue(t, app(name, num(1), num(1), num(1)), m, "0")
		wantValue(t, app(name+"?"), m, "0")
		wantValue(t, v(name), m, strconv.Itoa(i))
	}
}

// P8.2: numbers of MaxBits bits, and one more on the way.
func TestValueTooLarge(t *testing.T) {
	top := most()
	m := api.Model{Vars: []api.Value{value("x", top.String()), value("y", minus(top).String())}, Funs: []api.Entry{entry("f", "1", top.String())}}
	wantValue(t, x(), m, top.String())
	wantValue(t, f(x()), m, "1")
	wantValue(t, add(x(), num(-1), num(1)), m, top.String())
	wantNoValue(t, add(x(), num(1), num(-1)), m, api.ErrBig)
	wantNoValue(t, add(y(), num(-1), num(1)), m, api.ErrBig)
	wantValue(t, add(x(), y()), m, "0")
	wantValue(t, mul(-1, x()), m, minus(top).String())
	wantNoValue(t, mul(2, x()), m, api.ErrBig)
	wantNoValue(t, mul(0, mul(2, x())), m, api.ErrBig)
	wantValue(t, mul(0, x()), m, "0")
	wantNoValue(t, f(num(1), mul(2, x())), m, api.ErrBig)
	wantNoValue(t, f(add(x(), x())), m, api.ErrBig)
	wantValue(t, mul(2, bigNum(power(1023, -1))), m, power(1024, -2).String())
	wantNoValue(t, mul(2, bigNum(power(1023, 0))), m, api.ErrBig)
}

// P8.2: IsTerm's and Sound's errors come ahead of all else.
func TestValueRefuses(t *testing.T) {
	m := api.Model{Vars: []api.Value{value("x", most().String())}}
	tooLarge := mul(2, x())
	wantNoValue(t, le(x(), y()), m, api.ErrForm)
	wantNoValue(t, add(tooLarge, form(api.TNum, "x")), m, api.ErrDigit)
	wantNoValue(t, deep(api.MaxForm, func(t api.Form) api.Form { return mul(2, t) }, x()), m, api.ErrDeep)
	wantNoValue(t, add(repeated(api.MaxNodes, tooLarge)...), m, api.ErrLong)
	wantNoValue(t, api.Form{}, m, api.ErrForm)
	wantNotTrue(t, x(), m, api.ErrForm)
	wantNotTrue(t, and(le(tooLarge, x()), form(api.FNot, "")), m, api.ErrForm)
	wantNotTrue(t, or(and(), le(tooLarge, form(api.TMul, power(1024, 0).String(), x()))), m, api.ErrBig)
	wantNotTrue(t, deep(api.MaxForm, not, and()), m, api.ErrDeep)
}

// P8.2: each kind of formula, at all truths of its parts.
func TestTrue(t *testing.T) {
	p, q := boolean("p"), boolean("q")
	for i := range 4 {
		a, b := i&1 == 1, i&2 == 2
		m := api.Model{Bools: []api.Value{value("p", strconv.Itoa(i&1)), value("q", strconv.Itoa(i>>1))}}
		wantTrue(t, p, m, a)
		wantTrue(t, not(p), m, !a)
		wantTrue(t, and(p, q), m, a && b)
		wantTrue(t, or(p, q), m, a || b)
		wantTrue(t, imp(p, q), m, !a || b)
		wantTrue(t, iff(p, q), m, a == b)
		wantTrue(t, and(p), m, a)
		wantTrue(t, or(q), m, b)
		wantTrue(t, and(p, q, p, or()), m, false)
		wantTrue(t, or(p, q, p, and()), m, true)
	}
	wantTrue(t, and(), api.Model{}, true)
	wantTrue(t, or(), api.Model{}, false)
	m := api.Model{Vars: []api.Value{value("x", "3"), value("y", "4")}}
	wantTrue(t, le(x(), y()), m, true)
	wantTrue(t, le(x(), x()), m, true)
	wantTrue(t, le(y(), x()), m, false)
	wantTrue(t, eq(x(), y()), m, false)
	wantTrue(t, eq(add(x(), num(1)), y()), m, true)
	wantTrue(t, boolean("x"), m, false)
}

// P8.2: each Arg is looked at, also where the others have said enough.
func TestTrueLooksAtAll(t *testing.T) {
	m := api.Model{Vars: []api.Value{value("x", most().String())}}
	bad := le(mul(2, x()), num(0))
	for _, tree := range []api.Form{or(and(), bad), or(bad, and()), and(or(), bad), and(bad, or()), imp(or(), bad), imp(bad, and()), iff(bad, and()), not(bad), le(num(0), add(x(), x())), eq(add(x(), x()), add(x(), x()))} {
		wantNotTrue(t, tree, m, api.ErrBig)
	}
}

// anyModel: over the names of anyTerm.
func (d *dice) anyModel() api.Model {
	var m api.Model
	text := func() string {
		switch d.next(12) {
		case 0:
			return []string{"", "-0", "x", "01"}[d.next(4)]
		case 1:
			return power(uint(1015+d.next(12)), int64(d.number(3))).String()
		}
		return strconv.Itoa(d.number(3))
	}
	for range d.next(8) {
		m.Vars = append(m.Vars, value([]string{"x", "y", "z", "f"}[d.next(4)], text()))
		m.Bools = append(m.Bools, value([]string{"p", "x"}[d.next(2)], []string{"0", "1", "2", "y"}[d.next(4)]))
	}
	for range d.next(30) {
		e := api.Entry{Fun: []string{"f", "g", "x"}[d.next(3)], Num: text()}
		for range d.next(3) {
			e.Args = append(e.Args, text())
		}
		m.Funs = append(m.Funs, e)
	}
	return m
}

// anyTerm: without faults.
func (d *dice) anyTerm(depth int) api.Form {
	pick := d.next(8)
	if depth == 0 {
		pick = d.next(3)
	}
	switch pick {
	case 0, 1:
		return v([]string{"x", "y", "z"}[d.next(3)])
	case 2:
		if d.next(12) == 0 {
			return bigNum(power(uint(1000+d.next(24)), int64(-d.next(3))))
		}
		return num(d.number(3))
	case 3:
		if d.next(12) == 0 {
			return bigMul(power(uint(d.next(1000)), 0), d.anyTerm(depth-1))
		}
		return mul(d.number(3), d.anyTerm(depth-1))
	case 4, 5:
		return add(d.anyTerms(depth-1, 3)...)
	}
	return app([]string{"f", "g", "x"}[d.next(3)], d.anyTerms(depth-1, 2)...)
}

func (d *dice) anyTerms(depth, most int) []api.Form {
	var list []api.Form
	for range d.next(most + 1) {
		list = append(list, d.anyTerm(depth))
	}
	return list
}

// anyFormula: without faults.
func (d *dice) anyFormula(depth int) api.Form {
	pick := d.next(9)
	if depth == 0 {
		pick = d.next(4)
	}
	switch pick {
	case 0:
		return boolean([]string{"p", "x", "q"}[d.next(3)])
	case 1, 2:
		return le(d.anyTerm(2), d.anyTerm(2))
	case 3:
		return eq(d.anyTerm(2), d.anyTerm(2))
	case 4:
		return not(d.anyFormula(depth - 1))
	case 5:
		return imp(d.anyFormula(depth-1), d.anyFormula(depth-1))
	case 6:
		return iff(d.anyFormula(depth-1), d.anyFormula(depth-1))
	}
	var list []api.Form
	for range d.next(4) {
		list = append(list, d.anyFormula(depth-1))
	}
	return form([]int{api.FAnd, api.FOr}[pick-7], "", list...)
}

// P8.2: held against a reckoning of the tests' own.
func TestValuesOfAnything(t *testing.T) {
	d := dice(7)
	large, is := 0, [2]int{}
	for range 20000 {
		m, tree, formula := d.anyModel(), d.anyTerm(4), d.anyFormula(4)
		want, ok := reckoned(tree, m)
		if ok {
			wantValue(t, tree, m, want.String())
		} else {
			large++
			wantNoValue(t, tree, m, api.ErrBig)
		}
		truth, ok := judged(formula, m)
		if !ok {
			large++
			wantNotTrue(t, formula, m, api.ErrBig)
			continue
		}
		wantTrue(t, formula, m, truth)
		if truth {
			is[1]++
		} else {
			is[0]++
		}
	}
	if large < 100 || is[0] < 1000 || is[1] < 1000 {
		t.Errorf("%d too large, %v", large, is)
	}
}

// P8.2: as many parts, and as deep, as may be.
func TestValueOfMuch(t *testing.T) {
	m := api.Model{Vars: []api.Value{value("x", "3")}}
	count := api.MaxNodes - 1
	wantValue(t, add(repeated(count, x())...), m, strconv.Itoa(3*count))
	wantValue(t, deep(api.MaxForm-1, func(t api.Form) api.Form { return mul(2, t) }, x()), m, new(big.Int).Mul(power(199, 0), big.NewInt(3)).String())
	for i := range 5000 {
		m.Vars = append(m.Vars, value("x"+strconv.Itoa(i), "1"))
		m.Funs = append(m.Funs, entry("f", "2", strconv.Itoa(i)))
	}
	var applied []api.Form
	for i := range 5000 {
		applied = append(applied, f(num(i)), v("x"+strconv.Itoa(i)))
	}
	wantValue(t, add(applied[:api.MaxNodes/2]...), m, strconv.Itoa(api.MaxNodes/4*3))
}
