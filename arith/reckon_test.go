package arith_test

import (
	"math"
	"math/big"
	"strconv"
	"testing"

	"surety/api"
	"surety/arith"
)

// P1.3: Add, Sub, Mul of all pairs, exact, or refused if that has too many bits.
func TestAddSubMul(t *testing.T) {
	list := append(edges(), rough(4, 80)...)
	for _, a := range list {
		for _, b := range list {
			x, y := ofBig(t, a), ofBig(t, b)
			pair := "(" + a.String() + ", " + b.String() + ")"
			sum, err := arith.Add(x, y)
			want(t, "Add"+pair, new(big.Int).Add(a, b), sum, err)
			less, err := arith.Sub(x, y)
			want(t, "Sub"+pair, new(big.Int).Sub(a, b), less, err)
			product, err := arith.Mul(x, y)
			want(t, "Mul"+pair, new(big.Int).Mul(a, b), product, err)
		}
	}
}

// P1.3: products of just MaxBits bits and of one more, whichever the factors are.
func TestMulAtTheLimit(t *testing.T) {
	for k := uint(0); k <= 1023; k++ {
		for _, c := range []struct{ a, b *big.Int }{
			{power(k, 0), power(1023-k, 0)},
			{power(k+1, -1), power(1023-k, 0)},
			{power(k, 0), new(big.Int).Neg(power(1023-k, 0))},
			{power(k, 1), power(1023-k, 1)},
			{power(k, 0), power(min(1024-k, 1023), 0)},
		} {
			got, err := arith.Mul(ofBig(t, c.a), ofBig(t, c.b))
			want(t, "Mul("+c.a.String()+", "+c.b.String()+")", new(big.Int).Mul(c.a, c.b), got, err)
		}
	}
}

// P1.3: carries that go through all limbs.
func TestCarries(t *testing.T) {
	for k := uint(1); k <= 1024; k++ {
		ones, one := ofBig(t, power(k, -1)), arith.From(1)
		got, err := arith.Add(ones, one)
		want(t, "2^k - 1 and 1", power(k, 0), got, err)
		got, err = arith.Sub(ones.Neg(), one)
		want(t, "1 - 2^k less 1", new(big.Int).Neg(power(k, 0)), got, err)
		if k < 1024 {
			got, err = arith.Sub(ofBig(t, power(k, 0)), one)
			want(t, "2^k less 1", power(k, -1), got, err)
		}
	}
}

// sumOf: Sum of texts.
func sumOf(t *testing.T, texts ...string) (arith.Int, api.Errno) {
	var list []arith.Int
	for _, s := range texts {
		list = append(list, num(t, s))
	}
	return arith.Sum(list...)
}

// P1.3: Sum, from 0 on; the first sum that is too large counts, though others take it back.
func TestSum(t *testing.T) {
	most := power(1024, -1).String()
	for _, c := range []struct {
		list []string
		sum  string
	}{
		{nil, "0"},
		{[]string{"7"}, "7"},
		{[]string{"-7"}, "-7"},
		{[]string{"1", "2", "3"}, "6"},
		{[]string{"1", "-2", "3", "-4"}, "-2"},
		{[]string{most}, most},
		{[]string{most, "0", "0"}, most},
		{[]string{"0", "-1", most, "1"}, most},
		{[]string{most, "-1", "1"}, most},
		{[]string{most, "-" + most, most}, most},
		{[]string{"-" + most, "1", most}, "1"},
	} {
		if got, err := sumOf(t, c.list...); err != api.OK || got.Text() != c.sum {
			t.Errorf("Sum of %v: %s, error %d; want %s", c.list, got.Text(), err, c.sum)
		}
	}
	for _, list := range [][]string{
		{most, "1"},
		{most, "1", "-1"},
		{"1", most, "-1"},
		{"1", "1", most, "-" + most, "-1"},
		{"-" + most, "-1", "2"},
		{"5", "-" + most, "-6", "1"},
		{most, most, "-" + most, "-" + most},
	} {
		got, err := sumOf(t, list...)
		wantError(t, "a Sum that becomes too large", api.ErrBig, got, err)
	}
}

// P1.3: many numbers.
func TestSumLong(t *testing.T) {
	var list []arith.Int
	total := 0
	for n := range 2000 {
		list = append(list, arith.From(n*n-1000))
		total += n*n - 1000
	}
	if got, err := arith.Sum(list...); err != api.OK || got.Text() != strconv.Itoa(total) {
		t.Errorf("Sum: %s, error %d; want %d", got.Text(), err, total)
	}
}

// P1.3: Pow of small numbers, up to where it is refused.
func TestPow(t *testing.T) {
	for _, base := range []int64{0, 1, -1, 2, -2, 3, -3, 5, 7, -10, 255, 256, math.MaxUint32, -math.MaxUint32, math.MaxUint32 + 1, math.MaxInt64, math.MinInt64} {
		x := ofBig(t, big.NewInt(base))
		exact := big.NewInt(1)
		for n := range 1100 {
			got, err := arith.Pow(x, n)
			want(t, "Pow("+strconv.FormatInt(base, 10)+", "+strconv.Itoa(n)+")", exact, got, err)
			if fits(exact) {
				exact = new(big.Int).Mul(exact, big.NewInt(base))
			}
		}
	}
}

// P1.3: Pow where n is very great, and of great numbers.
func TestPowFar(t *testing.T) {
	most := power(1024, -1).String()
	half := power(512, -1)
	for _, c := range []struct {
		x    string
		n    int
		want string
	}{
		{"0", math.MaxInt, "0"}, {"1", math.MaxInt, "1"}, {"-1", math.MaxInt, "-1"}, {"-1", math.MaxInt - 1, "1"},
		{most, 0, "1"}, {most, 1, most}, {"-" + most, 1, "-" + most}, {"0", 0, "1"}, {"0", 1, "0"},
		{half.String(), 2, new(big.Int).Mul(half, half).String()},
		{"2", 1023, power(1023, 0).String()}, {"-2", 1023, "-" + power(1023, 0).String()},
	} {
		if got, err := arith.Pow(num(t, c.x), c.n); err != api.OK || got.Text() != c.want {
			t.Errorf("Pow(%s, %d): %s, error %d; want %s", c.x, c.n, got.Text(), err, c.want)
		}
	}
	for _, x := range []string{"2", "-2", "3", most, "-" + most} {
		for _, n := range []int{1024, 1025, 1 << 20, 1 << 32, 1 << 62, math.MaxInt - 1, math.MaxInt} {
			got, err := arith.Pow(num(t, x), n)
			wantError(t, "Pow("+x+", "+strconv.Itoa(n)+")", api.ErrBig, got, err)
		}
	}
	got, err := arith.Pow(ofBig(t, power(512, 0)), 2)
	wantError(t, "Pow(2^512, 2)", api.ErrBig, got, err)
}

// P1.3: Pow below 0, whatever x is.
func TestPowBelow(t *testing.T) {
	for _, b := range edges() {
		for _, n := range []int{-1, -2, -1024, math.MinInt + 1, math.MinInt} {
			got, err := arith.Pow(ofBig(t, b), n)
			wantError(t, "Pow("+b.String()+", "+strconv.Itoa(n)+")", api.ErrRange, got, err)
		}
	}
}
