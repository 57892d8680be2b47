package ratio_test

import (
	"math/big"
	"strings"
	"testing"

	"surety/api"
	"surety/arith"
	"surety/ratio"
)

// The tests hold the package against math/big, and know of it only what its exported calls tell.

// rat: the number of a text that must be one.
func rat(t *testing.T, s string) ratio.Rat {
	t.Helper()
	x, err := ratio.Parse(s)
	if err != api.OK {
		t.Fatalf("Parse(%q): error %d", s, err)
	}
	return x
}

func whole(t *testing.T, x *big.Int) arith.Int {
	t.Helper()
	n, err := arith.Parse(x.String())
	if err != api.OK {
		t.Fatalf("%s: error %d", x, err)
	}
	return n
}

func of(t *testing.T, x *big.Rat) ratio.Rat {
	t.Helper()
	return rat(t, x.RatString())
}

// power: 2^k + more.
func power(k uint, more int64) *big.Int {
	x := new(big.Int).Lsh(big.NewInt(1), k)
	return x.Add(x, big.NewInt(more))
}

func times(n int64, x *big.Int) *big.Int { return new(big.Int).Mul(big.NewInt(n), x) }

func by(a, b *big.Int) *big.Rat { return new(big.Rat).SetFrac(a, b) }

func fits(list ...*big.Int) bool {
	for _, x := range list {
		if x.BitLen() > api.MaxBits {
			return false
		}
	}
	return true
}

// same: does got tell of itself what x is, in all its calls?
func same(x *big.Rat, got ratio.Rat) bool {
	return got.Text() == x.RatString() && got.Num().Text() == x.Num().String() && got.Den().Text() == x.Denom().String() &&
		got.IsWhole() == x.IsInt() && got.Sign() == x.Sign()
}

// want: got is x.
func want(t *testing.T, what string, x *big.Rat, got ratio.Rat, err api.Errno) {
	t.Helper()
	if err != api.OK || !same(x, got) {
		t.Errorf("%s: %s, error %d; want %s", what, got.Text(), err, x.RatString())
	}
}

// wantError: that error, and 0 beside it.
func wantError(t *testing.T, what string, code api.Errno, got ratio.Rat, err api.Errno) {
	t.Helper()
	if err != code || !same(new(big.Rat), got) {
		t.Errorf("%s: %s, error %d; want 0, error %d", what, got.Text(), err, code)
	}
}

// wantIf: x, if ok; else ErrBig.
func wantIf(t *testing.T, ok bool, what string, x *big.Rat, got ratio.Rat, err api.Errno) {
	t.Helper()
	if ok {
		want(t, what, x, got, err)
		return
	}
	wantError(t, what, api.ErrBig, got, err)
}

// edges: every number above with every number below, of those beside which bits, words or all numbers end; of both signs.
func edges() []*big.Rat {
	above := []*big.Int{big.NewInt(1), big.NewInt(2), power(64, 0), power(512, -1), power(1023, 0), power(1024, -1)}
	below := append([]*big.Int{big.NewInt(6), power(512, 0), power(512, 1)}, above...)
	list := []*big.Rat{new(big.Rat)}
	seen := map[string]int{}
	for _, a := range above {
		for _, b := range below {
			x := by(a, b)
			if seen[x.String()] == 0 {
				seen[x.String()] = 1
				list = append(list, x, new(big.Rat).Neg(x))
			}
		}
	}
	return list
}

// dice is a row of numbers that is always the same.
type dice uint64

func (d *dice) next(below int) int {
	*d = *d*6364136223846793005 + 1442695040888963407
	return int(uint64(*d)>>33) % below
}

// number: of at most bits bits, not 0.
func (d *dice) number(bits int) *big.Int {
	x := new(big.Int)
	for range 1 + d.next(bits) {
		x.Lsh(x, 1)
		x.Or(x, big.NewInt(int64(d.next(2))))
	}
	return x.Or(x, big.NewInt(1))
}

// rough: numbers above and below with small factors in common among them, of up to bits bits; of both signs.
func rough(seed uint64, count, bits int) []*big.Rat {
	d := dice(seed)
	factors := []*big.Int{big.NewInt(1), big.NewInt(12), big.NewInt(30), power(31, 0), power(40, -1), power(61, -1)}
	var list []*big.Rat
	for len(list) < count {
		a := new(big.Int).Mul(d.number(bits-61), factors[d.next(len(factors))])
		b := new(big.Int).Mul(d.number(bits-61), factors[d.next(len(factors))])
		x := by(a, b)
		if d.next(2) == 0 {
			x.Neg(x)
		}
		list = append(list, x)
	}
	return list
}

// closeTogether: neighbours by the golden section, whose quotients agree for as long as any do.
func closeTogether() []*big.Rat {
	var list []*big.Rat
	a, b := big.NewInt(1), big.NewInt(1)
	for b.BitLen() < api.MaxBits {
		a, b = b, new(big.Int).Add(a, b)
		if b.BitLen() < 5 || b.BitLen() > api.MaxBits-4 {
			list = append(list, by(a, b), by(b, a), by(new(big.Int).Neg(b), a))
		}
	}
	return list
}

func allOf(t *testing.T, list []*big.Rat) []ratio.Rat {
	t.Helper()
	var out []ratio.Rat
	for _, x := range list {
		out = append(out, of(t, x))
	}
	return out
}

func texts(list []ratio.Rat) string {
	var out []string
	for _, x := range list {
		out = append(out, x.Text())
	}
	return strings.Join(out, " ")
}
