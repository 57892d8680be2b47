package arith_test

import (
	"math/big"
	"testing"

	"surety/api"
	"surety/arith"
)

// The zero Int is 0 for every call.
func TestZeroInt(t *testing.T) {
	var z arith.Int
	if z.Text() != "0" || z.Sign() != 0 || z.Bits() != 0 || z.Neg().Text() != "0" || z.Abs().Text() != "0" || z.Neg().Sign() != 0 {
		t.Errorf("the zero Int: %s, sign %d, %d bits", z.Text(), z.Sign(), z.Bits())
	}
	if n, ok := z.Small(); n != 0 || !ok {
		t.Errorf("Small of the zero Int: %d, %v", n, ok)
	}
	for _, other := range []arith.Int{num(t, "0"), arith.From(0), z.Neg(), arith.Gcd(z, z)} {
		if arith.Cmp(z, other) != 0 || arith.Cmp(other, z) != 0 {
			t.Errorf("the zero Int isn't %s", other.Text())
		}
	}
	five := arith.From(5)
	for what, answer := range map[string]func() (arith.Int, api.Errno){
		"5": func() (arith.Int, api.Errno) { return arith.Add(z, five) },
		"0": func() (arith.Int, api.Errno) { return arith.Mul(five, z) },
		"1": func() (arith.Int, api.Errno) { return arith.Pow(z, 0) },
	} {
		if x, err := answer(); x.Text() != what || err != api.OK {
			t.Errorf("of the zero Int and 5: %s, error %d; want %s", x.Text(), err, what)
		}
	}
}

// P1.2: Sign, Bits, Neg, Abs.
func TestSignBitsNegAbs(t *testing.T) {
	list := append(edges(), rough(2, 200)...)
	for k := uint(0); k < 1024; k++ {
		list = append(list, power(k, 0), power(k, -1), new(big.Int).Neg(power(k, 0)))
	}
	for _, b := range list {
		x := ofBig(t, b)
		if x.Sign() != b.Sign() {
			t.Errorf("Sign of %s: %d", b, x.Sign())
		}
		if x.Bits() != b.BitLen() {
			t.Errorf("Bits of %s: %d; want %d", b, x.Bits(), b.BitLen())
		}
		neg, abs := x.Neg(), x.Abs()
		if neg.Text() != new(big.Int).Neg(b).String() || neg.Sign() != -b.Sign() || neg.Neg().Text() != b.String() {
			t.Errorf("Neg of %s: %s", b, neg.Text())
		}
		if abs.Text() != new(big.Int).Abs(b).String() || abs.Sign() < 0 {
			t.Errorf("Abs of %s: %s", b, abs.Text())
		}
	}
}

// P1.2: Cmp of any two.
func TestCmp(t *testing.T) {
	list := append(edges(), rough(3, 60)...)
	for _, a := range list {
		for _, b := range list {
			if got := arith.Cmp(ofBig(t, a), ofBig(t, b)); got != a.Cmp(b) {
				t.Errorf("Cmp(%s, %s): %d", a, b, got)
			}
		}
	}
}

// P1.2: a single limb, the highest or the lowest, decides.
func TestCmpOneBitApart(t *testing.T) {
	base := power(1023, 0)
	for k := uint(0); k < 1023; k++ {
		x, y := ofBig(t, base), ofBig(t, new(big.Int).Add(base, power(k, 0)))
		if arith.Cmp(x, y) != -1 || arith.Cmp(y, x) != 1 || arith.Cmp(x.Neg(), y.Neg()) != 1 || arith.Cmp(y.Neg(), x.Neg()) != -1 {
			t.Errorf("Cmp of 2^1023 and 2^1023 + 2^%d", k)
		}
	}
}
