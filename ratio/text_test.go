package ratio_test

import (
	"math/big"
	"strings"
	"testing"

	"surety/api"
	"surety/arith"
	"surety/ratio"
)

// P2.2: texts without a stroke are arith's.
func TestParseWhole(t *testing.T) {
	long := power(1024, 0).String()
	most := power(1024, -1).String()
	for _, s := range []string{"0", "7", "-7", "10", most, "-" + most, long, "-" + long, strings.Repeat("9", 5000), "", "-", "+1", "-0", "007", " 1", "1 ", "1.5", "a", "1-", "--1", "\\", "1÷2", "\x00"} {
		n, errWhole := arith.Parse(s)
		x, err := ratio.Parse(s)
		if err != errWhole || x.Text() != n.Text() || !x.IsWhole() {
			t.Errorf("Parse(%q): %s, error %d; arith's %s, error %d", s, x.Text(), err, n.Text(), errWhole)
		}
	}
}

// P2.2 and P2.6: what is read is written again; what is written is read again.
func TestParseText(t *testing.T) {
	most, less := power(1024, -1).String(), power(1024, -2).String()
	for _, s := range []string{"1/2", "-1/2", "3/2", "-3/2", "7/10", "10/7", "100/3", "-100/9", "1/1000000007", most + "/" + less, "-" + less + "/" + most, "1/" + most} {
		x, err := ratio.Parse(s)
		if err != api.OK || x.Text() != s {
			t.Errorf("Parse(%q): %s, error %d", s, x.Text(), err)
		}
	}
	for _, x := range append(edges(), rough(4, 100, 1024)...) {
		y := of(t, x)
		again := rat(t, y.Text())
		if y.Text() != x.RatString() || ratio.Cmp(y, again) != 0 || again.Text() != y.Text() {
			t.Errorf("%s: written %s, read %s", x, y.Text(), again.Text())
		}
	}
}

// P2.2: with a stroke: what is no number first, then what is too large, then what isn't in lowest terms.
func TestParseWrong(t *testing.T) {
	long := power(1024, 0).String()
	for _, c := range []struct {
		s    string
		code api.Errno
	}{
		{"/", api.ErrDigit}, {"1/", api.ErrDigit}, {"/2", api.ErrDigit}, {"-/2", api.ErrDigit}, {"1/-", api.ErrDigit},
		{"1/2/3", api.ErrDigit}, {"1//2", api.ErrDigit}, {"1/2/", api.ErrDigit}, {"/1/2", api.ErrDigit}, {"//", api.ErrDigit},
		{"1/0", api.ErrDigit}, {"0/0", api.ErrDigit}, {"1/1", api.ErrDigit}, {"3/1", api.ErrDigit}, {"0/1", api.ErrDigit}, {"-3/1", api.ErrDigit},
		{"1/-2", api.ErrDigit}, {"-1/-2", api.ErrDigit}, {"1/-1", api.ErrDigit}, {"3/-2", api.ErrDigit},
		{"2/4", api.ErrDigit}, {"-2/4", api.ErrDigit}, {"6/4", api.ErrDigit}, {"0/5", api.ErrDigit}, {"5/5", api.ErrDigit}, {"15/35", api.ErrDigit}, {"4/2", api.ErrDigit},
		{"01/2", api.ErrDigit}, {"1/02", api.ErrDigit}, {"-0/2", api.ErrDigit}, {"+1/2", api.ErrDigit}, {"1/+2", api.ErrDigit}, {"1 /2", api.ErrDigit}, {"1/ 2", api.ErrDigit}, {"1/2 ", api.ErrDigit}, {" 1/2", api.ErrDigit}, {"a/2", api.ErrDigit}, {"1/b", api.ErrDigit},
		{long + "/x", api.ErrDigit}, {"x/" + long, api.ErrDigit}, {long + "/", api.ErrDigit}, {"/" + long, api.ErrDigit}, {long + "/2/3", api.ErrDigit}, {long + "/007", api.ErrDigit}, {"-0/" + long, api.ErrDigit},
		{long + "/3", api.ErrBig}, {"3/" + long, api.ErrBig}, {long + "/" + long, api.ErrBig}, {"-" + long + "/3", api.ErrBig}, {"3/-" + long, api.ErrBig},
		{long + "/0", api.ErrBig}, {long + "/1", api.ErrBig}, {long + "/-5", api.ErrBig}, {long + "/2", api.ErrBig}, {"0/" + long, api.ErrBig},
	} {
		x, err := ratio.Parse(c.s)
		wantError(t, "Parse("+c.s+")", c.code, x, err)
	}
}

// P2.6: numbers that are alike have one text, however they are come by.
func TestOneText(t *testing.T) {
	for _, x := range rough(5, 60, 400) {
		texts := []string{of(t, x).Text()}
		for _, k := range []int64{1, -1, 2, 6, 35, -1000000007} {
			y, err := ratio.Of(whole(t, times(k, x.Num())), whole(t, times(k, x.Denom())))
			if err != api.OK {
				t.Fatalf("%s by %d: error %d", x, k, err)
			}
			texts = append(texts, y.Text())
		}
		inverse, _ := ratio.Inv(of(t, x))
		back, _ := ratio.Inv(inverse)
		up, _ := ratio.Add(of(t, x), of(t, big.NewRat(7, 12)))
		down, _ := ratio.Sub(up, of(t, big.NewRat(7, 12)))
		more, _ := ratio.Mul(of(t, x), of(t, big.NewRat(-35, 6)))
		less, _ := ratio.Quo(more, of(t, big.NewRat(-35, 6)))
		for _, s := range append(texts, back.Text(), down.Text(), less.Text()) {
			if s != x.RatString() {
				t.Errorf("%s is written %s", x, s)
			}
		}
	}
}
