package theory_test

import (
	"strconv"
	"strings"
	"testing"

	"surety/api"
	"surety/theory"
)

func wantText(t *testing.T, tree api.Form, want string) {
	t.Helper()
	if got := theory.Text(tree); got != want {
		t.Errorf("Text is %.300q; want %.300q", got, want)
	}
}

// P8.3: each kind.
func TestText(t *testing.T) {
	wantText(t, x(), "x")
	wantText(t, v(""), "")
	wantText(t, num(-7), "-7")
	wantText(t, add(x(), num(2), y()), "sum(x, 2, y)")
	wantText(t, add(), "sum()")
	wantText(t, mul(-3, x()), "-3*(x)")
	wantText(t, f(x(), g()), "f(x, g())")
	wantText(t, app(""), "()")
	wantText(t, boolean("p"), "p")
	wantText(t, le(x(), y()), "le(x, y)")
	wantText(t, eq(x(), y()), "eq(x, y)")
	wantText(t, not(boolean("p")), "not(p)")
	wantText(t, and(), "and()")
	wantText(t, or(), "or()")
	wantText(t, and(boolean("p"), or(boolean("q"))), "and(p, or(q))")
	wantText(t, imp(boolean("p"), boolean("q")), "imp(p, q)")
	wantText(t, iff(boolean("p"), boolean("q")), "iff(p, q)")
	wantText(t, form(api.FLe, "any", x()), "le(x)")
	wantText(t, form(api.TAdd, "any"), "sum()")
}

// P8.3: names are written as they are; trees that are nothing have texts too.
func TestTextOfAnything(t *testing.T) {
	wantText(t, f(v("a, b"), v("(c)"), v(" ")), "f(a, b, (c),  )")
	wantText(t, api.Form{}, "")
	wantText(t, form(77, "odd"), "odd")
	wantText(t, form(-5, "odd", x(), form(0, "")), "odd(x, )")
	wantText(t, form(api.TVar, "x", y()), "x(y)")
	wantText(t, form(api.TNum, "no", y()), "no(y)")
	wantText(t, form(api.FBool, "p", x(), y()), "p(x, y)")
	for kind, head := range map[int]string{api.FLe: "le", api.FEq: "eq", api.FNot: "not", api.FImp: "imp", api.FIff: "iff", api.TMul: "n*"} {
		wantText(t, form(kind, "n"), head)
		wantText(t, form(kind, "n", x(), y(), z()), head+"(x, y, z)")
	}
}

// P8.3: two dots for what lies in 200 others or more.
func TestTextOfDeep(t *testing.T) {
	wrap := func(t api.Form) api.Form { return not(t) }
	for _, around := range []int{0, 1, 199} {
		wantText(t, deep(around, wrap, boolean("p")), strings.Repeat("not(", around)+"p"+strings.Repeat(")", around))
	}
	for _, around := range []int{200, 201, 5000} {
		wantText(t, deep(around, wrap, boolean("p")), strings.Repeat("not(", 200)+".."+strings.Repeat(")", 200))
	}
	wide := deep(199, wrap, f(x(), f(y()), app("")))
	wantText(t, wide, strings.Repeat("not(", 199)+"f(.., .., ..)"+strings.Repeat(")", 199))
	wantText(t, deep(199, wrap, and()), strings.Repeat("not(", 199)+"and()"+strings.Repeat(")", 199))
}

// P8.3, P1: a tree that holds itself has a text too.
func TestTextOfRing(t *testing.T) {
	ring := []api.Form{{Kind: api.FNot}}
	ring[0].Args = ring
	wantText(t, ring[0], strings.Repeat("not(", 200)+".."+strings.Repeat(")", 200))
	if err := theory.Sound(ring[0]); err != api.ErrDeep {
		t.Errorf("Sound: error %d", err)
	}
}

// P8.3: many parts.
func TestTextOfMany(t *testing.T) {
	var want []string
	for i := range 20000 {
		want = append(want, strconv.Itoa(i))
	}
	wantText(t, f(numbers(20000)...), "f("+strings.Join(want, ", ")+")")
}
