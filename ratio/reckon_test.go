package ratio_test

import (
	"math/big"
	"testing"

	"surety/api"
	"surety/ratio"
)

// addFits: do the four parts that P2.4 names have at most MaxBits bits?
func addFits(x, y *big.Rat) bool {
	a, b, c, d := x.Num(), x.Denom(), y.Num(), y.Denom()
	g := new(big.Int).GCD(nil, nil, b, d)
	left := new(big.Int).Quo(b, g)
	one := new(big.Int).Mul(a, new(big.Int).Quo(d, g))
	other := new(big.Int).Mul(c, left)
	t := new(big.Int).Add(one, other)
	h := new(big.Int).GCD(nil, nil, new(big.Int).Abs(t), g)
	return fits(one, other, t, left.Mul(left, new(big.Int).Quo(d, h)))
}

func checkAdd(t *testing.T, x, y *big.Rat) {
	t.Helper()
	sum, err := ratio.Add(of(t, x), of(t, y))
	wantIf(t, addFits(x, y), x.String()+" + "+y.String(), new(big.Rat).Add(x, y), sum, err)
	opposite := new(big.Rat).Neg(y)
	rest, err := ratio.Sub(of(t, x), of(t, y))
	wantIf(t, addFits(x, opposite), x.String()+" - "+y.String(), new(big.Rat).Sub(x, y), rest, err)
}

func checkMul(t *testing.T, x, y *big.Rat) {
	t.Helper()
	product := new(big.Rat).Mul(x, y)
	got, err := ratio.Mul(of(t, x), of(t, y))
	wantIf(t, fits(product.Num(), product.Denom()), x.String()+" * "+y.String(), product, got, err)
	got, err = ratio.Quo(of(t, x), of(t, y))
	if y.Sign() == 0 {
		wantError(t, x.String()+" / 0", api.ErrZero, got, err)
		return
	}
	part := new(big.Rat).Quo(x, y)
	wantIf(t, fits(part.Num(), part.Denom()), x.String()+" / "+y.String(), part, got, err)
}

// P2.4: Add, Sub, Mul, Quo of ordinary numbers, of edges and of numbers with common divisors.
func TestReckon(t *testing.T) {
	var small []*big.Rat
	for a := int64(-6); a <= 6; a++ {
		for b := int64(1); b <= 6; b++ {
			small = append(small, big.NewRat(a, b))
		}
	}
	for _, list := range [][]*big.Rat{small, edges(), rough(6, 40, 300), rough(7, 40, 600), rough(8, 40, 1024)} {
		for _, x := range list {
			for _, y := range list {
				checkAdd(t, x, y)
				checkMul(t, x, y)
			}
		}
	}
}

// sumCase: two numbers, and whether their sum is refused.
type sumCase struct {
	name    string
	x, y    *big.Rat
	refused bool
}

// wantSums: as said, in either order; so c (b / g) is tried where a (d / g) is.
func wantSums(t *testing.T, list []sumCase) {
	t.Helper()
	for _, c := range list {
		sum, err := ratio.Add(of(t, c.x), of(t, c.y))
		wantIf(t, !c.refused, c.name, new(big.Rat).Add(c.x, c.y), sum, err)
		rest, err := ratio.Sub(of(t, c.x), of(t, new(big.Rat).Neg(c.y)))
		wantIf(t, !c.refused, c.name+", taken off", new(big.Rat).Add(c.x, c.y), rest, err)
		sum, err = ratio.Add(of(t, c.y), of(t, c.x))
		wantIf(t, !c.refused, c.name+", the other way", new(big.Rat).Add(c.x, c.y), sum, err)
	}
}

// P2.4: each of Add's four parts alone can be the one that is too large; the sum itself would often fit.
func TestAddParts(t *testing.T) {
	one, half := big.NewInt(1), big.NewRat(1, 2)
	int2 := func(k uint, more int64) *big.Rat { return new(big.Rat).SetInt(power(k, more)) }
	wantSums(t, []sumCase{
		// 2^1023 by 2 has one bit too many, though the sum (2^1024 - 1) / 2 has not.
		{"a (d / g) one too large", int2(1023, 0), big.NewRat(-1, 2), true},
		{"a (d / g) below 0 one too large", new(big.Rat).Neg(int2(1023, 0)), half, true},
		{"a (d / g) and t just fit", int2(1023, -1), half, false},
		{"a (d / g) just fits, t falls", int2(1023, -1), big.NewRat(-1, 2), false},
		// 2^1024 has one bit too many, though its half has not.
		{"t one too large", by(power(1024, -1), big.NewInt(2)), half, true},
		{"t below 0 one too large", by(times(-1, power(1024, -1)), big.NewInt(2)), big.NewRat(-1, 2), true},
		{"t of whole numbers one too large", int2(1024, -1), big.NewRat(1, 1), true},
		{"t of whole numbers just fits", int2(1024, -2), big.NewRat(1, 1), false},
		{"t just fits", by(power(1024, -3), big.NewInt(2)), big.NewRat(1, 1), false},
		{"below just fits", by(one, power(512, 0)), by(one, power(512, -1)), false},
		{"below too large", by(one, power(512, 0)), by(one, power(512, 1)), true},
		{"below, of a small number and a great one", by(one, power(1023, 0)), big.NewRat(1, 3), true},
		// 15 * 2^1021 below has one bit too many; but 8 of it is in what stands above, too.
		{"below has too many bits till it is in lowest terms", by(one, times(3, power(1021, 0))), by(one, times(5, power(1021, 0))), false},
		// 21 * 2^1021 has two bits too many, and only 2 of it is in what stands above.
		{"below has too many bits in lowest terms", by(one, times(3, power(1021, 0))), by(one, times(7, power(1021, 0))), true},
		{"opposites", by(big.NewInt(-1), power(1024, -1)), by(one, power(1024, -1)), false},
	})
}

// P2.4: products of just MaxBits bits above or below, and of one more.
func TestMulParts(t *testing.T) {
	one := big.NewInt(1)
	for _, c := range []struct {
		name    string
		x, y    *big.Rat
		refused bool
	}{
		{"above just fits", by(power(512, 0), big.NewInt(3)), by(power(512, -1), big.NewInt(5)), false},
		{"above one too large", by(power(512, 0), big.NewInt(3)), by(power(512, 1), big.NewInt(5)), true},
		{"above 2^1023", by(power(1000, 0), one), by(power(23, 0), one), false},
		{"above 2^1024", by(power(1000, 0), one), by(times(-1, power(24, 0)), one), true},
		{"below just fits", by(big.NewInt(3), power(512, 0)), by(big.NewInt(-5), power(512, -1)), false},
		{"below one too large", by(big.NewInt(3), power(512, 0)), by(big.NewInt(5), power(512, 1)), true},
		{"below 2^1023", by(one, power(1000, 0)), by(one, power(23, 0)), false},
		{"below 2^1024", by(one, power(1000, 0)), by(one, power(24, 0)), true},
		{"both, which go against each other", by(power(1024, -1), power(1024, -2)), by(power(1024, -2), power(1024, -1)), false},
		{"one goes", by(power(1023, 0), one), by(power(1024, -1), power(1023, 0)), false},
		{"nothing by 0", by(power(1024, -1), power(1023, 0)), new(big.Rat), false},
	} {
		product := new(big.Rat).Mul(c.x, c.y)
		got, err := ratio.Mul(of(t, c.x), of(t, c.y))
		wantIf(t, !c.refused, c.name, product, got, err)
		got, err = ratio.Mul(of(t, c.y), of(t, c.x))
		wantIf(t, !c.refused, c.name+", the other way", product, got, err)
		if c.y.Sign() != 0 {
			got, err = ratio.Quo(of(t, c.x), of(t, new(big.Rat).Inv(c.y)))
			wantIf(t, !c.refused, c.name+", divided", product, got, err)
		}
	}
}

// P2.4: Inv, whose sign goes above.
func TestInv(t *testing.T) {
	for _, x := range append(edges(), rough(9, 60, 1024)...) {
		got, err := ratio.Inv(of(t, x))
		if x.Sign() == 0 {
			wantError(t, "1 by 0", api.ErrZero, got, err)
			continue
		}
		want(t, "1 by "+x.String(), new(big.Rat).Inv(x), got, err)
	}
}

// P2.4: by 0 counts, whatever is divided.
func TestQuoZero(t *testing.T) {
	for _, x := range edges() {
		got, err := ratio.Quo(of(t, x), ratio.Rat{})
		wantError(t, x.String()+" by 0", api.ErrZero, got, err)
	}
}

// P2.7: what is added can be taken off, what is multiplied by can be divided by.
func TestThereAndBack(t *testing.T) {
	list := append(edges(), rough(10, 50, 500)...)
	kept := 0
	for _, b := range list {
		for _, c := range list {
			x, y := of(t, b), of(t, c)
			sum, err := ratio.Add(x, y)
			back, errBack := ratio.Sub(sum, y)
			if err == api.OK && errBack == api.OK {
				kept++
				want(t, b.String()+" and back over "+c.String(), b, back, errBack)
			}
			product, err := ratio.Mul(x, y)
			back, errBack = ratio.Quo(product, y)
			if err == api.OK && y.Sign() != 0 {
				want(t, b.String()+" and back by "+c.String(), b, back, errBack)
			}
		}
	}
	if kept < len(list) {
		t.Errorf("only %d sums weren't refused", kept)
	}
}
