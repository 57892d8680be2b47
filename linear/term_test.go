package linear_test

import (
	"math"
	"math/big"
	"slices"
	"testing"

	"surety/api"
	"surety/arith"
	"surety/linear"
)

// The zero Term is 0, wherever it stands.
func TestZeroTerm(t *testing.T) {
	var zero linear.Term
	want(t, "the zero Term", of(0), zero, api.OK)
	want(t, "with another sign", of(0), zero.Neg(), api.OK)
	if zero.Common().Text() != "0" || !linear.Same(zero, linear.Num(arith.Int{})) || len(zero.Vars()) != 0 {
		t.Errorf("the zero Term: common divisor %s, variables %v", zero.Common().Text(), zero.Vars())
	}
	x := term(t, of(-7, 0, 2, 3, 1))
	got, err := linear.Add(zero, x)
	want(t, "0 and a term", of(-7, 0, 2, 3, 1), got, err)
	got, err = linear.Sub(zero, x)
	want(t, "0 less a term", of(7, 0, -2, 3, -1), got, err)
	got, err = linear.Scale(zero, whole(t, most()))
	want(t, "0 taken by a number", of(0), got, err)
	got, err = linear.Put(zero, 0, x)
	want(t, "a term put into 0", of(0), got, err)
	got, err = linear.Put(x, 3, zero)
	want(t, "0 put into a term", of(-7, 0, 2), got, err)
	if value, err := zero.At(wholes(t, bigs(1, 2))); err != api.OK || value.Text() != "0" {
		t.Errorf("the zero Term's value: %s, error %d", value.Text(), err)
	}
}

// P3.1: Num, with no bound but that of numbers.
func TestNum(t *testing.T) {
	for _, n := range append(edgeNumbers(), big.NewInt(0)) {
		want(t, "Num of "+n.String(), number(n), linear.Num(whole(t, n)), api.OK)
		want(t, "Num of - "+n.String(), number(minus(n)), linear.Num(whole(t, minus(n))), api.OK)
	}
	want(t, "Num of the zero Int", of(0), linear.Num(arith.Int{}), api.OK)
}

// P3.1: Var, from 0 to MaxVars - 1 and no further.
func TestVar(t *testing.T) {
	for _, v := range []int{0, 1, 2, 77, 4094, api.MaxVars - 2, api.MaxVars - 1} {
		x, err := linear.Var(v)
		want(t, "a variable", of(0, int64(v), 1), x, err)
	}
	for _, v := range []int{-1, -2, api.MaxVars, api.MaxVars + 1, 1 << 32, math.MinInt, math.MaxInt} {
		x, err := linear.Var(v)
		wantError(t, "no variable", api.ErrVar, x, err)
	}
}

// P3.1: Rest, Vars, Coef, IsNum of sums that came about in any order.
func TestParts(t *testing.T) {
	for _, s := range sums(1, 200) {
		want(t, s.text(), s, term(t, s), api.OK)
	}
	var x linear.Term
	for _, v := range []int{3, 1, api.MaxVars - 1, 0, 2} {
		sum, err := linear.Add(x, variable(t, v))
		if err != api.OK {
			t.Fatalf("adding %d: error %d", v, err)
		}
		x = sum
	}
	want(t, "mixed up", of(0, 0, 1, 1, 1, 2, 1, 3, 1, api.MaxVars-1, 1), x, api.OK)
}

// P3.1: Coef of what isn't there, in number or in the term, is 0.
func TestCoefOfNone(t *testing.T) {
	x := term(t, of(9, 1, 5, 3, -6))
	for _, v := range []int{math.MinInt, -1, 0, 2, 4, api.MaxVars - 1, api.MaxVars, math.MaxInt} {
		if got := x.Coef(v); got.Text() != "0" || got.Sign() != 0 {
			t.Errorf("the coefficient of %d: %s", v, got.Text())
		}
	}
}

// P3.1: all variables at once, which are as many as there may be.
func TestAllVars(t *testing.T) {
	var plain api.Row
	s := of(0)
	for v := api.MaxVars - 1; v >= 0; v-- {
		plain.Sum = append(plain.Sum, api.Mono{Var: v, Coef: "1"})
		s.coefs[v] = big.NewInt(1)
	}
	plain.Most = "0"
	r, err := linear.Read(plain)
	want(t, "all variables", s, r.Sum, err)
	twice, err := linear.Add(r.Sum, r.Sum)
	want(t, "all variables twice", s.times(big.NewInt(2)), twice, err)
	none, err := linear.Sub(r.Sum, r.Sum)
	want(t, "all variables gone", of(0), none, err)
}

// P3.1: Same: the variables, the coefficients and the rest, each of them.
func TestSame(t *testing.T) {
	list := append(sums(2, 60), of(1, 0, 2), of(1, 0, 3), of(1, 1, 2), of(2, 0, 2), of(1, 0, 2, 1, 2), of(1), of(0, 0, 2), of(1, 0, -2), of(-1, 0, 2))
	made := terms(t, list)
	again := terms(t, list)
	for i, a := range list {
		for j, b := range list {
			if got := linear.Same(made[i], again[j]); got != (a.text() == b.text()) {
				t.Errorf("Same of %s and %s: %v", a.text(), b.text(), got)
			}
		}
	}
}

// P3.1: terms that are alike are the same, however they are come by.
func TestSameOtherWays(t *testing.T) {
	x := term(t, of(-7, 0, 2, 3, 1))
	big := linear.Num(whole(t, power(1000, 0)))
	up, _ := linear.Add(x, big)
	down, _ := linear.Sub(up, big)
	y := variable(t, 2)
	more, _ := linear.Add(x, y)
	less, _ := linear.Sub(more, y)
	put, _ := linear.Put(more, 2, linear.Term{})
	for _, other := range []linear.Term{down, less, put, x.Neg().Neg()} {
		if !linear.Same(x, other) || !linear.Same(other, x) || other.Text() != x.Text() {
			t.Errorf("%s, come by in another way: %s", x.Text(), other.Text())
		}
	}
}

// P3.3: Text.
func TestText(t *testing.T) {
	for _, c := range []struct {
		s    sum
		text string
	}{
		{of(0), "0"}, {of(5), "5"}, {of(-5), "-5"},
		{of(0, 0, 1), "1*x0"}, {of(0, api.MaxVars-1, -1), "-1*x4095"}, {of(1, 10, 1), "1*x10 + 1"},
		{of(-7, 0, 2, 3, 1), "2*x0 + 1*x3 + -7"}, {of(0, 3, 1, 0, -2), "-2*x0 + 1*x3"},
		{of(0, 9, 1, 10, 1, 100, 1), "1*x9 + 1*x10 + 1*x100"},
		{number(most()).with(2, minus(most())), "-" + most().String() + "*x2 + " + most().String()},
	} {
		if got := term(t, c.s).Text(); got != c.text {
			t.Errorf("%s: %s", c.text, got)
		}
	}
}

// P3.3: Common is above 0, hangs on the coefficients alone, and is 0 of none.
func TestCommon(t *testing.T) {
	for _, c := range []struct {
		s      sum
		common int64
	}{
		{of(0), 0}, {of(6), 0}, {of(-6), 0}, {of(0, 0, 1), 1}, {of(0, 0, -1), 1}, {of(0, 0, 5), 5}, {of(0, 0, -5), 5},
		{of(7, 0, 12, 1, -18), 6}, {of(3, 0, -12, 4, -18), 6}, {of(0, 0, 4, 1, 6, 2, 9), 1}, {of(4, 0, 4, 1, 8), 4}, {of(0, 0, 6, 1, 10, 2, 15), 1},
	} {
		if got := term(t, c.s).Common().Text(); got != big.NewInt(c.common).String() {
			t.Errorf("Common of %s: %s", c.s.text(), got)
		}
	}
	for _, s := range sums(3, 200) {
		g := new(big.Int)
		for _, v := range s.vars() {
			g.GCD(nil, nil, g, new(big.Int).Abs(s.coefs[v]))
		}
		if got := term(t, s).Common(); got.Text() != g.String() {
			t.Errorf("Common of %s: %s; want %s", s.text(), got.Text(), g)
		}
	}
}

// P2: what Vars answers is new each time, and the term isn't changed by it.
func TestVarsIsNew(t *testing.T) {
	x := term(t, of(1, 0, 2, 1, 3, 4, 5))
	first, second := x.Vars(), x.Vars()
	first[0], first[1], first[2] = 9, 8, 7
	_ = append(first[:1], 6)
	if !slices.Equal(second, []int{0, 1, 4}) || !slices.Equal(x.Vars(), []int{0, 1, 4}) {
		t.Errorf("a list that was changed changed %v or %v", second, x.Vars())
	}
	want(t, "the term", of(1, 0, 2, 1, 3, 4, 5), x, api.OK)
}
