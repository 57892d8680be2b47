package ratio

import (
	"strings"

	"surety/api"
	"surety/arith"
)

// Parse: a number's text, with or without a stroke.
func Parse(s string) (Rat, api.Errno) {
	above, below, cut := strings.Cut(s, "/")
	num, errNum := arith.Parse(above)
	if !cut {
		return Whole(num), errNum
	}
	den, errDen := arith.Parse(below)
	if err := graver(errNum, errDen); err != api.OK {
		return Rat{}, err
	}
	// 0 and 1 aren't written below, and only lowest terms are: a number has one text.
	if den.Sign() <= 0 || isOne(den) || !isOne(arith.Gcd(num, den)) {
		return Rat{}, api.ErrDigit
	}
	return lowest(num, den), api.OK
}

// graver: what is no number counts ahead of what is too large.
func graver(a, b api.Errno) api.Errno {
	if a == api.ErrDigit || b == api.OK {
		return a
	}
	return b
}

// Text: as Parse reads it.
func (x Rat) Text() string {
	if x.IsWhole() {
		return x.num.Text()
	}
	return x.num.Text() + "/" + x.den.Text()
}
