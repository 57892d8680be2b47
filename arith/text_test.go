package arith_test

import (
	"math"
	"math/big"
	"strconv"
	"strings"
	"testing"

	"surety/api"
	"surety/arith"
)

// P1.1: what Parse takes, and P1.5: Text tells it as it was read.
func TestParseTakes(t *testing.T) {
	texts := []string{"0", "1", "-1", "9", "10", "-10", "90", "100", "101", "999999999", "1000000000", "1000000001", "-1000000000000000000",
		"123456789012345678901234567890", "4294967295", "4294967296", "18446744073709551615", "18446744073709551616",
		"1" + strings.Repeat("0", 308), "-1" + strings.Repeat("0", 308), power(1024, -1).String(), "-" + power(1024, -1).String(), power(1023, 0).String()}
	for _, s := range texts {
		x, err := arith.Parse(s)
		if err != api.OK || x.Text() != s {
			t.Errorf("Parse(%q): %s, error %d", s, x.Text(), err)
		}
	}
}

// P1.1: what is no number's text, too long ones too: ErrDigit goes ahead of ErrBig.
func TestParseErrDigit(t *testing.T) {
	long := strings.Repeat("9", 400)
	texts := []string{"", "-", "+", "-0", "+0", "+1", "007", "00", "01", "-01", "-00", "--1", "-+1", "1-", "-1-", " 1", "1 ", "- 1", "1\n", "\t1",
		"x", "1x", "x1", "-x", "1x1", "1.0", "1e3", "0x1", "0b1", "1_000", "1,0", "1/2", "/", ":", "1:", "1/", "\x00", "1\x00", "\xff", "\u0661", "\uff11", "1\uff11",
		long + "x", "x" + long, "0" + long, "-0" + long, "+" + long, "--" + long, long + "-", long[:200] + "x" + long[:200], strings.Repeat("0", 400)}
	for _, s := range texts {
		x, err := arith.Parse(s)
		wantError(t, "Parse("+strconv.Quote(s)+")", api.ErrDigit, x, err)
	}
	for c := range 256 {
		s := "1" + string([]byte{byte(c)})
		if _, err := arith.Parse(s); (err == api.OK) != (c >= '0' && c <= '9') || err != api.OK && err != api.ErrDigit {
			t.Errorf("Parse(%q): error %d", s, err)
		}
	}
}

// P1.1: numbers of more than MaxBits bits.
func TestParseErrBig(t *testing.T) {
	texts := []string{power(1024, 0).String(), power(1024, 1).String(), power(1025, 0).String(), strings.Repeat("9", 309), strings.Repeat("9", 310),
		"1" + strings.Repeat("0", 309), strings.Repeat("1", 400), strings.Repeat("7", 100000)}
	for _, s := range texts {
		for _, sign := range []string{"", "-"} {
			x, err := arith.Parse(sign + s)
			wantError(t, "Parse("+sign+s[:5]+"..)", api.ErrBig, x, err)
		}
	}
}

// P1.5: Parse of Text is the number.
func TestTextAndBack(t *testing.T) {
	for _, b := range append(edges(), rough(1, 300)...) {
		x := ofBig(t, b)
		if x.Text() != b.String() {
			t.Errorf("Text of %s: %s", b, x.Text())
		}
		if y := num(t, x.Text()); arith.Cmp(x, y) != 0 {
			t.Errorf("Parse of Text of %s: %s", b, y.Text())
		}
	}
}

// P1.1: From and Small, at all ends of the machine's numbers.
func TestFromSmall(t *testing.T) {
	list := []int{0, 1, -1, 7, -10, 99, math.MaxInt, math.MaxInt - 1, -math.MaxInt, math.MinInt, math.MinInt + 1}
	for k := range 63 {
		list = append(list, 1<<k, 1<<k-1, 1<<k+1, -1<<k, -(1<<k)-1, -(1<<k)+1)
	}
	for _, n := range list {
		x := arith.From(n)
		if x.Text() != strconv.Itoa(n) {
			t.Errorf("From(%d): %s", n, x.Text())
		}
		if back, ok := x.Small(); back != n || !ok {
			t.Errorf("Small of %d: %d, %v", n, back, ok)
		}
		if back, ok := num(t, strconv.Itoa(n)).Small(); back != n || !ok {
			t.Errorf("Small of the text %d: %d, %v", n, back, ok)
		}
	}
}

// P1.1: Small of what is no int.
func TestSmallBeyond(t *testing.T) {
	for k := uint(63); k <= 1024; k++ {
		for more := int64(-1); more <= 1; more++ {
			for _, b := range []*big.Int{power(k, more), new(big.Int).Neg(power(k, more))} {
				if b.IsInt64() || !fits(b) {
					continue
				}
				if n, ok := ofBig(t, b).Small(); n != 0 || ok {
					t.Errorf("Small of %s: %d, %v", b, n, ok)
				}
			}
		}
	}
}
