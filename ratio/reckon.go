package ratio

import (
	"surety/api"
	"surety/arith"
)

// Add: x and y together.
func Add(x, y Rat) (Rat, api.Errno) {
	b, d := x.Den(), y.Den()
	g := arith.Gcd(b, d)
	left := quotient(b, g)
	t, err := cross(x.num, quotient(d, g), y.num, left)
	if err != api.OK {
		return Rat{}, err
	}
	// What t and both numbers below have in common is in g alone.
	h := arith.Gcd(t, g)
	den, err := arith.Mul(left, quotient(d, h))
	if err != api.OK {
		return Rat{}, err
	}
	return lowest(quotient(t, h), den), api.OK
}

// cross: a times p and c times q together.
func cross(a, p, c, q arith.Int) (arith.Int, api.Errno) {
	one, err := arith.Mul(a, p)
	if err != api.OK {
		return arith.Int{}, err
	}
	other, err := arith.Mul(c, q)
	if err != api.OK {
		return arith.Int{}, err
	}
	return arith.Add(one, other)
}

// Sub: x less y.
func Sub(x, y Rat) (Rat, api.Errno) { return Add(x, y.Neg()) }

// Mul: x times y.
func Mul(x, y Rat) (Rat, api.Errno) {
	// Common divisors go first, so that nothing is refused but what is too large in lowest terms.
	xNum, yDen := reduced(x.num, y.Den())
	yNum, xDen := reduced(y.num, x.Den())
	num, err := arith.Mul(xNum, yNum)
	if err != api.OK {
		return Rat{}, err
	}
	den, err := arith.Mul(xDen, yDen)
	if err != api.OK {
		return Rat{}, err
	}
	return lowest(num, den), api.OK
}

// reduced: both without their common divisors; the second is above 0.
func reduced(a, b arith.Int) (arith.Int, arith.Int) {
	g := arith.Gcd(a, b)
	return quotient(a, g), quotient(b, g)
}

// Inv: 1 by x.
func Inv(x Rat) (Rat, api.Errno) { return Of(x.Den(), x.num) }

// Quo: x by y.
func Quo(x, y Rat) (Rat, api.Errno) {
	inverse, err := Inv(y)
	if err != api.OK {
		return Rat{}, err
	}
	return Mul(x, inverse)
}

// Fold: a start, and each of a list in turn by a function; the first error ends it.
func Fold(start Rat, list []Rat, step func(Rat, Rat) (Rat, api.Errno)) (Rat, api.Errno) {
	value := start
	for _, x := range list {
		next, err := asked(step, value, x)
		if err != api.OK {
			return Rat{}, err
		}
		value = next
	}
	return value, api.OK
}

// asked: what step answers. It comes from outside: one that is nil or panics must not make Fold panic.
func asked(step func(Rat, Rat) (Rat, api.Errno), x, y Rat) (answer Rat, err api.Errno) {
	defer func() {
		if recover() != nil {
			answer, err = Rat{}, api.ErrRange
		}
	}()
	return step(x, y)
}

// Sum: of any numbers, from the left on.
func Sum(list ...Rat) (Rat, api.Errno) { return Fold(Rat{}, list, Add) }
