package arith_test

import (
	"math/big"
	"testing"

	"surety/api"
	"surety/arith"
)

// floored: the quotient rounded down, and the rest.
func floored(a, b *big.Int) (*big.Int, *big.Int) {
	q, r := new(big.Int).QuoRem(a, b, new(big.Int))
	if r.Sign() != 0 && r.Sign() != b.Sign() {
		q.Sub(q, big.NewInt(1))
		r.Add(r, b)
	}
	return q, r
}

func checkDiv(t *testing.T, a, b *big.Int) {
	t.Helper()
	q, r, err := arith.Div(ofBig(t, a), ofBig(t, b))
	if b.Sign() == 0 {
		wantError(t, "Div("+a.String()+", 0)", api.ErrZero, q, err)
		wantError(t, "the rest of Div("+a.String()+", 0)", api.ErrZero, r, err)
		return
	}
	wantQ, wantR := floored(a, b)
	if err != api.OK || q.Text() != wantQ.String() || r.Text() != wantR.String() {
		t.Errorf("Div(%s, %s): %s, %s, error %d; want %s, %s", a, b, q.Text(), r.Text(), err, wantQ, wantR)
	}
}

// P1.4: the chapter's examples, and all small pairs.
func TestDivSmall(t *testing.T) {
	for _, c := range [][4]int{{-7, 2, -4, 1}, {7, -2, -4, -1}, {7, 2, 3, 1}, {-7, -2, 3, -1}, {6, -3, -2, 0}, {-6, 3, -2, 0}, {0, -5, 0, 0}, {1, -5, -1, -4}, {-1, 5, -1, 4}} {
		q, r, err := arith.Div(arith.From(c[0]), arith.From(c[1]))
		if q.Text() != arith.From(c[2]).Text() || r.Text() != arith.From(c[3]).Text() || err != api.OK {
			t.Errorf("Div(%d, %d): %s, %s, error %d; want %d, %d", c[0], c[1], q.Text(), r.Text(), err, c[2], c[3])
		}
	}
	for a := int64(-20); a <= 20; a++ {
		for b := int64(-20); b <= 20; b++ {
			checkDiv(t, big.NewInt(a), big.NewInt(b))
		}
	}
}

// P1.4: both signs, all sizes, and by 0.
func TestDivEdges(t *testing.T) {
	list := append(edges(), rough(5, 80)...)
	for _, a := range list {
		for _, b := range list {
			checkDiv(t, a, b)
		}
	}
}

// P1.4: numbers beside a product, where the quotient's lowest limb is guessed wrong most easily.
func TestDivNearProducts(t *testing.T) {
	d := dice(6)
	list := rough(7, 300)
	for range 4000 {
		b, q := list[d.next(len(list))], list[d.next(len(list))]
		a := new(big.Int).Mul(b, q)
		for more := int64(-1); more <= 1; more++ {
			if near := new(big.Int).Add(a, big.NewInt(more)); fits(near) {
				checkDiv(t, near, b)
			}
		}
		if near := new(big.Int).Sub(a, b); fits(near) {
			checkDiv(t, near.Add(near, big.NewInt(1)), b)
		}
	}
}

// P1.4: divisors and quotients of limbs at their ends only, all that fit into a few limbs: the rare way of the long division, where a guess must be taken back, is among them.
func TestDivPatterns(t *testing.T) {
	ends := []int64{0, 1, 0x7fffffff, 0x80000000, 0xfffffffe, 0xffffffff}
	var three []*big.Int
	for _, x := range ends {
		for _, y := range ends {
			for _, z := range ends {
				n := new(big.Int).Lsh(big.NewInt(x), 64)
				n.Or(n, new(big.Int).Lsh(big.NewInt(y), 32))
				three = append(three, n.Or(n, big.NewInt(z)))
			}
		}
	}
	for i, low := range three {
		for j, b := range three {
			high := three[(i*31+j*17)%len(three)]
			a := new(big.Int).Lsh(high, 96)
			checkDiv(t, a.Or(a, low), b)
			checkDiv(t, low, b)
		}
	}
}

// P1.4: a = q b + r, and r has b's sign and is less than b without signs, told by the package's own calls.
func TestDivHolds(t *testing.T) {
	list := append(edges(), rough(8, 60)...)
	for _, a := range list {
		for _, b := range list {
			if b.Sign() == 0 {
				continue
			}
			x, y := ofBig(t, a), ofBig(t, b)
			q, r, _ := arith.Div(x, y)
			// The product alone may have too many bits, though with the rest it hasn't.
			if product, err := arith.Mul(q, y); err == api.OK {
				if back, err := arith.Add(product, r); err != api.OK || arith.Cmp(back, x) != 0 {
					t.Errorf("Div(%s, %s): %s, %s", a, b, q.Text(), r.Text())
				}
			}
			if r.Sign() != 0 && r.Sign() != y.Sign() || arith.Cmp(r.Abs(), y.Abs()) >= 0 {
				t.Errorf("the rest of Div(%s, %s): %s", a, b, r.Text())
			}
		}
	}
}

func checkGcd(t *testing.T, a, b *big.Int) {
	t.Helper()
	exact := new(big.Int).GCD(nil, nil, new(big.Int).Abs(a), new(big.Int).Abs(b))
	if got := arith.Gcd(ofBig(t, a), ofBig(t, b)); got.Text() != exact.String() {
		t.Errorf("Gcd(%s, %s): %s; want %s", a, b, got.Text(), exact)
	}
}

// P1.4: Gcd of both signs, of 0 and something, of 0 and 0.
func TestGcd(t *testing.T) {
	for a := int64(-30); a <= 30; a++ {
		for b := int64(-30); b <= 30; b++ {
			checkGcd(t, big.NewInt(a), big.NewInt(b))
		}
	}
	list := append(edges(), rough(9, 50)...)
	for _, a := range list {
		for _, b := range list {
			checkGcd(t, a, b)
		}
	}
}

// P1.4: great numbers with a divisor in common.
func TestGcdCommon(t *testing.T) {
	d := dice(10)
	list := rough(11, 200)
	for range 2000 {
		common := list[d.next(len(list))]
		a := new(big.Int).Mul(common, list[d.next(len(list))])
		b := new(big.Int).Mul(common, list[d.next(len(list))])
		if fits(a) && fits(b) {
			checkGcd(t, a, b)
		}
	}
}

// P1: Gcd ends of two numbers of Fibonacci's row, which take the most divisions.
func TestGcdMostDivisions(t *testing.T) {
	a, b := big.NewInt(1), big.NewInt(1)
	for next := new(big.Int).Add(a, b); fits(next); next = new(big.Int).Add(a, b) {
		a, b = b, next
	}
	checkGcd(t, a, b)
	checkGcd(t, b, new(big.Int).Neg(a))
}
