package linear_test

import (
	"math"
	"math/big"
	"testing"

	"surety/api"
	"surety/arith"
	"surety/linear"
)

// P3.2: Add and Sub, of edges and of mixed sums, refused just where a number has too many bits.
func TestAddSub(t *testing.T) {
	list := sums(4, 80)
	made := terms(t, list)
	for i, a := range list {
		for j, b := range list {
			got, err := linear.Add(made[i], made[j])
			want(t, a.text()+" and "+b.text(), a.plus(b), got, err)
			got, err = linear.Sub(made[i], made[j])
			want(t, a.text()+" less "+b.text(), a.plus(b.neg()), got, err)
		}
	}
}

// P3.2: a coefficient that becomes 0 goes, at either end and amid others.
func TestCoefficientsGo(t *testing.T) {
	x := of(4, 0, 2, 1, -3, 2, 5)
	for _, c := range []struct{ less, left sum }{
		{of(0, 0, 2), of(4, 1, -3, 2, 5)},
		{of(0, 1, -3), of(4, 0, 2, 2, 5)},
		{of(0, 2, 5), of(4, 0, 2, 1, -3)},
		{of(4, 0, 2, 1, -3, 2, 5), of(0)},
		{of(4), of(0, 0, 2, 1, -3, 2, 5)},
		{of(5, 0, 2, 1, -3, 2, 5), of(-1)},
	} {
		got, err := linear.Sub(term(t, x), term(t, c.less))
		want(t, x.text()+" less "+c.less.text(), c.left, got, err)
		got, err = linear.Add(term(t, x), term(t, c.less).Neg())
		want(t, x.text()+" and the opposite of "+c.less.text(), c.left, got, err)
	}
}

// P3.2: a coefficient, or the rest, of just MaxBits bits is taken, and of one more refused, whatever stands beside it.
func TestAddBig(t *testing.T) {
	top, less := most(), power(1024, -2)
	for _, c := range []struct {
		name    string
		a, b    sum
		refused bool
	}{
		{"a coefficient just fits", of(0).with(1, less), of(0, 1, 1), false},
		{"a coefficient is one too many", of(0).with(1, top), of(0, 1, 1), true},
		{"one below 0 just fits", of(0).with(1, minus(less)), of(0, 1, -1), false},
		{"one below 0 is one too many", of(0).with(1, minus(top)), of(0, 1, -1), true},
		{"the rest just fits", number(less), of(1, 1, 1), false},
		{"the rest is one too many", number(top), of(1, 1, 1), true},
		{"the first coefficient alone", of(3, 1, 2).with(0, top), of(3, 0, 1, 1, 2), true},
		{"the last coefficient alone", of(3, 1, 2).with(9, top), of(3, 9, 1, 1, 2), true},
		{"different variables", of(0).with(0, top), of(0).with(1, top), false},
		{"a coefficient and a rest", of(0).with(0, top), number(top), false},
		{"they go", of(0).with(0, top), of(0).with(0, minus(top)), false},
	} {
		if c.a.plus(c.b).fits() == c.refused {
			t.Fatalf("%s: the case is wrong", c.name)
		}
		got, err := linear.Add(term(t, c.a), term(t, c.b))
		want(t, c.name, c.a.plus(c.b), got, err)
		got, err = linear.Add(term(t, c.b), term(t, c.a))
		want(t, c.name+", the other way", c.a.plus(c.b), got, err)
		got, err = linear.Sub(term(t, c.a), term(t, c.b.neg()))
		want(t, c.name+", by Sub", c.a.plus(c.b), got, err)
	}
}

// P3.2: Scale, and Neg, which refuses nothing.
func TestScale(t *testing.T) {
	for _, s := range sums(5, 120) {
		x := term(t, s)
		for _, n := range append(edgeNumbers(), big.NewInt(0), big.NewInt(7)) {
			for _, by := range []*big.Int{n, minus(n)} {
				got, err := linear.Scale(x, whole(t, by))
				want(t, s.text()+" by "+by.String(), s.times(by), got, err)
			}
		}
		want(t, "0 less "+s.text(), s.neg(), x.Neg(), api.OK)
		want(t, "0 less that", s, x.Neg().Neg(), api.OK)
	}
}

// P3.2: products of just MaxBits bits are taken, and of one more refused, be it the rest's or one coefficient's.
func TestScaleBig(t *testing.T) {
	half := power(1023, 0)
	below := power(1023, -1)
	for _, c := range []struct {
		name    string
		s       sum
		refused bool
	}{
		{"the rest fits", number(below), false}, {"the rest doesn't", number(half), true},
		{"the rest alone", number(half).with(0, big.NewInt(1)), true},
		{"a coefficient fits", of(0).with(3, minus(below)), false}, {"a coefficient doesn't", of(0).with(3, minus(half)), true},
		{"the first alone", of(1, 5, 1, 6, 1).with(0, half), true}, {"the last alone", of(1, 5, 1, 6, 1).with(7, half), true},
	} {
		for _, by := range []int64{2, -2} {
			product := c.s.times(big.NewInt(by))
			if product.fits() == c.refused {
				t.Fatalf("%s: the case is wrong", c.name)
			}
			got, err := linear.Scale(term(t, c.s), arith.From(int(by)))
			want(t, c.name, product, got, err)
		}
		got, err := linear.Scale(term(t, c.s), arith.Int{})
		want(t, c.name+", by 0", of(0), got, err)
	}
}

// put: t with by in the place of v, and whether neither step is refused.
func put(s sum, v int, by sum) (sum, bool) {
	c, ok := s.coefs[v]
	if !ok {
		return s, true
	}
	scaled := by.times(c)
	out := s.with(v, new(big.Int)).plus(scaled)
	return out, scaled.fits() && out.fits()
}

// P3.2: Put, of variables that are there and that aren't.
func TestPut(t *testing.T) {
	list := sums(6, 60)
	made := terms(t, list)
	for i, s := range list {
		for j, by := range list {
			for _, v := range []int{0, 2, api.MaxVars - 1} {
				x, ok := put(s, v, by)
				got, err := linear.Put(made[i], v, made[j])
				what := s.text() + " with " + by.text()
				if ok {
					want(t, what, x, got, err)
				} else {
					wantError(t, what, api.ErrBig, got, err)
				}
			}
		}
	}
}

// P3.2: Put of a variable that isn't there, or is none, is the term itself, whatever is put.
func TestPutOfNone(t *testing.T) {
	s := of(-7, 0, 2, 3, 1).with(5, most())
	by := number(most()).with(5, most())
	for _, v := range []int{math.MinInt, -1, 1, 2, 4, 6, api.MaxVars - 1, api.MaxVars, math.MaxInt} {
		got, err := linear.Put(term(t, s), v, term(t, by))
		want(t, "of none", s, got, err)
	}
}

// P3.2: Put by a term that has the variable itself: it is put once.
func TestPutOfItself(t *testing.T) {
	for _, c := range []struct {
		s  sum
		v  int
		by sum
		is sum
	}{
		{of(1, 0, 2, 1, 3), 0, of(0, 0, 1), of(1, 0, 2, 1, 3)},
		{of(1, 0, 2, 1, 3), 0, of(5, 0, 1), of(11, 0, 2, 1, 3)},
		{of(1, 0, 2, 1, 3), 0, of(0, 0, 4, 1, 1), of(1, 0, 8, 1, 5)},
		{of(1, 0, 3, 1, 3), 1, of(0, 0, -1, 1, -2), of(1, 1, -6)},
		{of(1, 0, 2, 1, 3), 1, of(-1), of(-2, 0, 2)},
		{of(0, 7, -1), 7, of(4, 6, 2, 8, -2), of(-4, 6, -2, 8, 2)},
	} {
		got, err := linear.Put(term(t, c.s), c.v, term(t, c.by))
		want(t, c.s.text()+" with "+c.by.text(), c.is, got, err)
	}
}

// P3.2: each of Put's two steps may be the one that is refused, even where the other would make it good.
func TestPutBig(t *testing.T) {
	half, top := power(1023, 0), most()
	for _, c := range []struct {
		name    string
		s, by   sum
		refused bool
	}{
		{"the product's rest", of(0, 0, 2), number(half), true},
		{"the product just fits", of(0, 0, 2), number(power(1023, -1)), false},
		{"the product's coefficient", of(0, 0, 2), of(0).with(4, half), true},
		{"the product, though the sum would fit", of(-5, 0, 2), number(half), true},
		{"the product's coefficient, though the sum would fit", of(0, 0, 2, 4, -5), of(0).with(4, half), true},
		{"the sum's rest", number(top).with(0, big.NewInt(2)), of(1), true},
		{"the sum's rest just fits", number(power(1024, -3)).with(0, big.NewInt(2)), of(1), false},
		{"the sum's coefficient", of(0, 0, 2).with(4, top), of(0, 4, 1), true},
		{"the sum's coefficient just fits", of(0, 0, 2).with(4, power(1024, -3)), of(0, 4, 1), false},
		{"what was there goes ahead of it", of(0).with(0, top), of(0, 0, 1), false},
		{"the variable's own product", of(0).with(0, top), of(0, 0, 2), true},
	} {
		x, ok := put(c.s, 0, c.by)
		if ok == c.refused {
			t.Fatalf("%s: the case is wrong", c.name)
		}
		got, err := linear.Put(term(t, c.s), 0, term(t, c.by))
		if c.refused {
			wantError(t, c.name, api.ErrBig, got, err)
		} else {
			want(t, c.name, x, got, err)
		}
	}
}

// wantValue: n, or, if not ok, 0 beside ErrBig.
func wantValue(t *testing.T, what string, n *big.Int, ok bool, got arith.Int, err api.Errno) {
	t.Helper()
	if ok && (err != api.OK || got.Text() != n.String()) {
		t.Errorf("%s: %s, error %d; want %s", what, got.Text(), err, n)
	}
	if !ok && (err != api.ErrBig || got.Text() != "0") {
		t.Errorf("%s: %s, error %d; want 0, error %d", what, got.Text(), err, api.ErrBig)
	}
}

// P3.3: At, of values for fewer and for more variables than there are.
func TestAt(t *testing.T) {
	s := of(-7, 0, 2, 3, 1, api.MaxVars-1, 5)
	every := make([]*big.Int, api.MaxVars+10)
	for v := range every {
		every[v] = big.NewInt(int64(v + 1))
	}
	for _, c := range []struct {
		count int
		value int64
	}{{0, -7}, {1, -5}, {2, -5}, {3, -5}, {4, -1}, {5, -1}, {api.MaxVars - 1, -1}, {api.MaxVars, 5*4096 - 1}, {api.MaxVars + 10, 5*4096 - 1}} {
		got, err := term(t, s).At(wholes(t, every[:c.count]))
		wantValue(t, s.text(), big.NewInt(c.value), true, got, err)
	}
	d := dice(7)
	for _, s := range sums(8, 300) {
		for range 5 {
			values := d.values()
			n, ok := s.at(values)
			got, err := term(t, s).At(wholes(t, values))
			wantValue(t, s.text(), n, ok, got, err)
		}
	}
}

// P3.3: At is refused where a product, or a sum on the way from the rest on, the variables rising, has too many bits.
func TestAtBig(t *testing.T) {
	top := most()
	for _, c := range []struct {
		name    string
		s       sum
		values  []*big.Int
		refused bool
	}{
		{"a product just fits", of(0, 0, 2), []*big.Int{power(1023, -1)}, false},
		{"a product doesn't", of(0, 0, 2), []*big.Int{power(1023, 0)}, true},
		{"a product doesn't, though the sum would", of(-9, 0, 2), []*big.Int{power(1023, 0)}, true},
		{"a sum just fits", of(1, 0, 1), []*big.Int{power(1024, -2)}, false},
		{"a sum doesn't", of(1, 0, 1), []*big.Int{top}, true},
		{"a sum below 0 doesn't", of(-1, 0, 1), []*big.Int{minus(top)}, true},
		{"too much on the way", of(0, 0, 1, 1, 1, 2, -1), []*big.Int{top, big.NewInt(1), big.NewInt(1)}, true},
		{"not on this way", of(0, 0, 1, 1, 1, 2, -1), []*big.Int{big.NewInt(1), big.NewInt(-1), minus(top)}, false},
		{"the rest comes first", of(1, 0, 1, 1, -1), []*big.Int{top, big.NewInt(1)}, true},
		{"the rest comes first and helps", of(-1, 0, 1, 1, 1), []*big.Int{top, big.NewInt(1)}, false},
		{"without a value", number(top).with(1, big.NewInt(1)), []*big.Int{top}, false},
		{"by 0", of(0).with(0, top), bigs(0), false},
	} {
		n, ok := c.s.at(c.values)
		if ok == c.refused {
			t.Fatalf("%s: the case is wrong", c.name)
		}
		got, err := term(t, c.s).At(wholes(t, c.values))
		wantValue(t, c.name, n, ok, got, err)
	}
}

// atBoth: a's and b's values by a step; true, if nothing is refused.
func atBoth(step func(a, b arith.Int) (arith.Int, api.Errno), a arith.Int, errA api.Errno, b arith.Int, errB api.Errno) (arith.Int, bool) {
	value, err := step(a, b)
	return value, errA == api.OK && errB == api.OK && err == api.OK
}

// P3.6: At goes through Add, Sub and Scale.
func TestAtThroughAddAndScale(t *testing.T) {
	d := dice(9)
	list := terms(t, sums(10, 60))
	kept := 0
	for _, a := range list {
		for _, b := range list {
			values, by := wholes(t, d.values()), whole(t, d.number())
			atA, errA := a.At(values)
			atB, errB := b.At(values)
			for _, c := range []struct {
				reckon func(a, b linear.Term) (linear.Term, api.Errno)
				step   func(a, b arith.Int) (arith.Int, api.Errno)
			}{{linear.Add, arith.Add}, {linear.Sub, arith.Sub}} {
				whole, err := c.reckon(a, b)
				atWhole, errWhole := whole.At(values)
				parts, ok := atBoth(c.step, atA, errA, atB, errB)
				if ok && err == api.OK && errWhole == api.OK {
					kept++
					if parts.Text() != atWhole.Text() {
						t.Errorf("%s and %s at some values: %s, together %s", a.Text(), b.Text(), parts.Text(), atWhole.Text())
					}
				}
			}
			scaled, err := linear.Scale(a, by)
			atScaled, errScaled := scaled.At(values)
			product, ok := atBoth(arith.Mul, atA, errA, by, api.OK)
			if ok && err == api.OK && errScaled == api.OK && product.Text() != atScaled.Text() {
				t.Errorf("%s by %s at some values: %s and %s", a.Text(), by.Text(), product.Text(), atScaled.Text())
			}
		}
	}
	if kept < len(list)*len(list)/2 {
		t.Errorf("only %d sums weren't refused", kept)
	}
}

// P3.6: At goes through Put: the value is the term's where the variable has the other's value.
func TestAtThroughPut(t *testing.T) {
	d := dice(11)
	list := terms(t, sums(12, 60))
	kept := 0
	for _, a := range list {
		for _, by := range list {
			v, values := d.next(4), wholes(t, append(bigs(1, -2, 3, 5), d.values()...))
			put, err := linear.Put(a, v, by)
			atPut, errPut := put.At(values)
			atBy, errBy := by.At(values)
			values[v] = atBy
			atA, errA := a.At(values)
			if err != api.OK || errPut != api.OK || errBy != api.OK || errA != api.OK {
				continue
			}
			kept++
			if atPut.Text() != atA.Text() {
				t.Errorf("%s with %s for x%d: %s and %s", a.Text(), by.Text(), v, atPut.Text(), atA.Text())
			}
		}
	}
	if kept < len(list)*len(list)/3 {
		t.Errorf("only %d weren't refused", kept)
	}
}
