package ratio_test

import (
	"math/big"
	"testing"

	"surety/api"
	"surety/arith"
	"surety/ratio"
)

// The zero Rat is 0, with 1 below, wherever it stands.
func TestZeroRat(t *testing.T) {
	var zero ratio.Rat
	want(t, "the zero Rat", new(big.Rat), zero, api.OK)
	if zero.Floor().Text() != "0" || zero.Ceil().Text() != "0" || ratio.Cmp(zero, rat(t, "0")) != 0 {
		t.Errorf("the zero Rat: from %s to %s", zero.Floor().Text(), zero.Ceil().Text())
	}
	want(t, "the zero Rat with another sign", new(big.Rat), zero.Neg(), api.OK)
	half := by(big.NewInt(1), big.NewInt(2))
	sum, err := ratio.Add(zero, of(t, half))
	want(t, "0 + 1/2", half, sum, err)
	product, err := ratio.Mul(of(t, half), zero)
	want(t, "1/2 * 0", new(big.Rat), product, err)
	_, err = ratio.Inv(zero)
	if err != api.ErrZero {
		t.Errorf("1 by the zero Rat: error %d", err)
	}
}

// P2.1: Whole.
func TestWhole(t *testing.T) {
	for _, n := range []*big.Int{big.NewInt(0), big.NewInt(1), big.NewInt(-1), big.NewInt(12), power(1024, -1), times(-1, power(1024, -1))} {
		want(t, "Whole", new(big.Rat).SetInt(n), ratio.Whole(whole(t, n)), api.OK)
	}
	want(t, "Whole of the zero Int", new(big.Rat), ratio.Whole(arith.Int{}), api.OK)
}

// P2.1: Of, with either sign above and below.
func TestOf(t *testing.T) {
	most := power(1024, -1)
	list := []*big.Int{big.NewInt(1), big.NewInt(4), big.NewInt(6), big.NewInt(35), power(32, 0), power(512, 0), power(1023, 0), power(1024, -2), most}
	for _, a := range list {
		for _, b := range list {
			for _, signs := range [][2]int64{{1, 1}, {1, -1}, {-1, 1}, {-1, -1}} {
				above, below := times(signs[0], a), times(signs[1], b)
				x, err := ratio.Of(whole(t, above), whole(t, below))
				want(t, "Of("+above.String()+", "+below.String()+")", by(above, below), x, err)
			}
		}
	}
	for _, b := range append(list, times(-1, most), big.NewInt(-1)) {
		x, err := ratio.Of(arith.Int{}, whole(t, b))
		want(t, "0 by "+b.String(), new(big.Rat), x, err)
	}
}

// P2.1: nothing is divided by 0.
func TestOfZero(t *testing.T) {
	for _, a := range []int{0, 1, -1, 77} {
		x, err := ratio.Of(arith.From(a), arith.Int{})
		wantError(t, "by 0", api.ErrZero, x, err)
	}
}

// P2.1: Num, Den, IsWhole, Sign; and Neg, which goes back.
func TestParts(t *testing.T) {
	for _, x := range append(edges(), rough(1, 100, 1024)...) {
		y := of(t, x)
		want(t, x.String(), x, y, api.OK)
		want(t, "- "+x.String(), new(big.Rat).Neg(x), y.Neg(), api.OK)
		want(t, "- - "+x.String(), x, y.Neg().Neg(), api.OK)
	}
}

// floor: the whole part by math/big, rounded down.
func floor(x *big.Rat) *big.Int {
	// Div of math/big rounds down where the divisor is above 0.
	return new(big.Int).Div(x.Num(), x.Denom())
}

// P2.3: Floor and Ceil, on both sides of 0.
func TestFloorCeil(t *testing.T) {
	list := append(edges(), rough(2, 200, 1024)...)
	for a := int64(-9); a <= 9; a++ {
		for b := int64(1); b <= 5; b++ {
			list = append(list, big.NewRat(a, b))
		}
	}
	for _, x := range list {
		y := of(t, x)
		if got := y.Floor().Text(); got != floor(x).String() {
			t.Errorf("Floor of %s: %s", x, got)
		}
		up := floor(new(big.Rat).Neg(x))
		if got := y.Ceil().Text(); got != up.Neg(up).String() {
			t.Errorf("Ceil of %s: %s", x, got)
		}
	}
}

// P2.3: Cmp, of any two: also where the products across have up to 2048 bits.
func TestCmp(t *testing.T) {
	list := append(edges(), rough(3, 40, 1024)...)
	list = append(list, closeTogether()...)
	made := allOf(t, list)
	for i, x := range list {
		for j, y := range list {
			if got := ratio.Cmp(made[i], made[j]); got != x.Cmp(y) {
				t.Errorf("Cmp(%s, %s): %d", x, y, got)
			}
		}
	}
}

// P2.3: Cmp tells apart what differs by next to nothing.
func TestCmpNear(t *testing.T) {
	n := power(1024, -1)
	for _, sign := range []int64{1, -1} {
		a := by(times(sign, new(big.Int).Sub(n, big.NewInt(2))), new(big.Int).Sub(n, big.NewInt(1)))
		b := by(times(sign, new(big.Int).Sub(n, big.NewInt(1))), n)
		if got := ratio.Cmp(of(t, a), of(t, b)); got != -int(sign) {
			t.Errorf("sign %d: %d", sign, got)
		}
		if got := ratio.Cmp(of(t, b), of(t, a)); got != int(sign) {
			t.Errorf("sign %d, the other way: %d", sign, got)
		}
		if got := ratio.Cmp(of(t, a), of(t, a)); got != 0 {
			t.Errorf("sign %d, itself: %d", sign, got)
		}
	}
}
