// Package arith is layer 1: whole numbers of at most api.MaxBits bits; what is reckoned is exact, or refused.
package arith

import (
	"math"

	"surety/api"
)

// Int is a whole number: its sign, and its limbs, the lowest first, none of them a nought at the end. The zero Int is 0.
type Int struct {
	neg   bool
	limbs []uint32
}

// signed makes a number of limbs that nobody else holds. 0 gets one form alone, without a sign and without limbs.
func signed(neg bool, limbs []uint32) Int {
	limbs = trimmed(limbs)
	if len(limbs) == 0 {
		return Int{}
	}
	return Int{neg: neg, limbs: limbs}
}

// fitting is signed, but refuses a number of too many bits.
func fitting(neg bool, limbs []uint32) (Int, api.Errno) {
	x := signed(neg, limbs)
	if x.Bits() > api.MaxBits {
		return Int{}, api.ErrBig
	}
	return x, api.OK
}

// From: a machine's number.
func From(n int) Int {
	if n < 0 {
		// The least int has no opposite among ints: the one above it has.
		return signed(true, splitWord(uint64(-(n+1))+1))
	}
	return signed(false, splitWord(uint64(n)))
}

// Small: as a machine's number, if it is one.
func (x Int) Small() (int, bool) {
	if len(x.limbs) > wordLimbs {
		return 0, false
	}
	word := joinWord(x.limbs)
	if !x.neg && word <= math.MaxInt {
		return int(word), true
	}
	if x.neg && word-1 <= math.MaxInt {
		return -int(word-1) - 1, true
	}
	return 0, false
}

// Sign: -1, 0 or 1.
func (x Int) Sign() int {
	if len(x.limbs) == 0 {
		return 0
	}
	if x.neg {
		return -1
	}
	return 1
}

// Bits: how many binary digits it has without its sign.
func (x Int) Bits() int { return bitLength(x.limbs) }

// Neg: with the other sign.
func (x Int) Neg() Int { return signed(!x.neg, copied(x.limbs)) }

// Abs: without a sign.
func (x Int) Abs() Int { return signed(false, copied(x.limbs)) }

// Cmp: -1, 0 or 1, as a is less than b, b, or greater.
func Cmp(a, b Int) int {
	if a.neg != b.neg {
		if a.neg {
			return -1
		}
		return 1
	}
	if a.neg {
		return cmpLimbs(b.limbs, a.limbs)
	}
	return cmpLimbs(a.limbs, b.limbs)
}

// Add: a and b together.
func Add(a, b Int) (Int, api.Errno) {
	if a.neg == b.neg {
		return fitting(a.neg, addLimbs(a.limbs, b.limbs))
	}
	if cmpLimbs(a.limbs, b.limbs) < 0 {
		return signed(b.neg, subLimbs(b.limbs, a.limbs)), api.OK
	}
	return signed(a.neg, subLimbs(a.limbs, b.limbs)), api.OK
}

// Sub: a less b.
func Sub(a, b Int) (Int, api.Errno) { return Add(a, b.Neg()) }

// Mul: a times b.
func Mul(a, b Int) (Int, api.Errno) {
	return fitting(a.neg != b.neg, mulLimbs(a.limbs, b.limbs))
}

// Div: the quotient, rounded down, and the rest: of b's sign, or 0.
func Div(a, b Int) (Int, Int, api.Errno) {
	if b.Sign() == 0 {
		return Int{}, Int{}, api.ErrZero
	}
	quot, rest := divLimbs(a.limbs, b.limbs)
	if a.neg == b.neg {
		return signed(false, quot), signed(b.neg, rest), api.OK
	}
	if len(rest) > 0 {
		// What is cut off was rounded towards 0: one step down, and the rest counts from there.
		quot = addLimbs(quot, splitWord(1))
		rest = subLimbs(b.limbs, rest)
	}
	return signed(true, quot), signed(b.neg, rest), api.OK
}

// Gcd: the greatest number that divides both; 0 of two noughts.
func Gcd(a, b Int) Int {
	x, y := a.limbs, b.limbs
	for len(x) > wordLimbs || len(y) > wordLimbs {
		if len(y) == 0 {
			return signed(false, copied(x))
		}
		_, rest := divLimbs(x, y)
		x, y = y, rest
	}
	return signed(false, splitWord(gcdWords(joinWord(x), joinWord(y))))
}

// Sum: of any numbers, from the left on.
func Sum(list ...Int) (Int, api.Errno) {
	var sum Int
	for _, x := range list {
		next, err := Add(sum, x)
		if err != api.OK {
			return Int{}, err
		}
		sum = next
	}
	return sum, api.OK
}

// Pow: x taken n times as a factor.
func Pow(x Int, n int) (Int, api.Errno) {
	if n < 0 {
		return Int{}, api.ErrRange
	}
	if n == 0 {
		return From(1), api.OK
	}
	// No power on the way is greater than the last one without signs, so one that is too large refuses rightly; and the halves make few calls, however great n is.
	half, err := Pow(x, n/2)
	if err != api.OK {
		return Int{}, err
	}
	power, err := Mul(half, half)
	if err != api.OK || n%2 == 0 {
		return power, err
	}
	return Mul(power, x)
}
