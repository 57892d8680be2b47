package arith

import (
	"slices"
	"strings"

	"surety/api"
)

const (
	// chunkDigits decimal digits fit into one limb; they are taken together, so that the limbs are gone through less often.
	chunkDigits = 9
	chunkPower  = 1000000000

	// maxDigits is how many decimal digits the greatest number has: log10(2) is a little less than 30103/100000.
	maxDigits = api.MaxBits*30103/100000 + 1
)

// Parse: a number's text.
func Parse(s string) (Int, api.Errno) {
	digits, neg := strings.CutPrefix(s, "-")
	if !isPlain(digits) || neg && digits == "0" {
		return Int{}, api.ErrDigit
	}
	if len(digits) > maxDigits {
		return Int{}, api.ErrBig
	}
	return fitting(neg, readDigits(digits))
}

// isPlain: one or more digits, without noughts ahead?
func isPlain(s string) bool {
	if len(s) == 0 || s[0] == '0' && len(s) > 1 {
		return false
	}
	for i := range len(s) {
		if s[i] < '0' || s[i] > '9' {
			return false
		}
	}
	return true
}

// readDigits: the limbs of at most maxDigits digits.
func readDigits(s string) []uint32 {
	var limbs []uint32
	chunk, power := uint32(0), uint32(1)
	for i := range len(s) {
		chunk = chunk*10 + uint32(s[i]-'0')
		power *= 10
		if power == chunkPower || i == len(s)-1 {
			limbs = scaleLimbs(limbs, power, chunk)
			chunk, power = 0, 1
		}
	}
	return limbs
}

// Text: in decimal digits.
func (x Int) Text() string {
	if x.Sign() == 0 {
		return "0"
	}
	out := writeDigits(x.limbs)
	if x.neg {
		out = append(out, '-')
	}
	slices.Reverse(out)
	return string(out)
}

// writeDigits: the decimal digits, the lowest first, without noughts at the end.
func writeDigits(limbs []uint32) []byte {
	var out []byte
	rest := copied(limbs)
	for len(rest) > 0 {
		chunk := shrinkLimbs(rest, chunkPower)
		rest = trimmed(rest)
		for range chunkDigits {
			out = append(out, byte('0'+chunk%10))
			chunk /= 10
		}
	}
	for len(out) > 0 && out[len(out)-1] == '0' {
		out = out[:len(out)-1]
	}
	return out
}
