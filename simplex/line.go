package simplex

import (
	"cmp"
	"slices"

	"surety/api"
	"surety/arith"
)

// share is an unknown and its coefficient, which isn't 0.
type share struct {
	of   int
	coef arith.Int
}

// line says what an unknown is by others: taken by den, which is above 0, it is the sum of its parts. These rise, and nothing but 1 divides den and all coefficients. Whole numbers with one divisor for all cost less than fractions do. Lines are values: no call changes one.
type line struct {
	of    int
	den   arith.Int
	parts []share
}

// coefOf: an unknown's coefficient; false, if it is no part.
func (l line) coefOf(u int) (arith.Int, bool) {
	at, ok := l.find(u)
	if !ok {
		return arith.Int{}, false
	}
	return l.parts[at].coef, true
}

func (l line) find(u int) (int, bool) {
	return slices.BinarySearchFunc(l.parts, u, func(s share, u int) int { return cmp.Compare(s.of, u) })
}

// solved: the line as one of its part at a place.
func (l line) solved(at int) line {
	gone := l.parts[at]
	own := share{of: l.of, coef: l.den}
	if gone.coef.Sign() < 0 {
		own.coef = l.den.Neg()
	}
	out := line{of: gone.of, den: gone.coef.Abs()}
	placed := false
	for i, p := range l.parts {
		if i == at {
			continue
		}
		if !placed && own.of < p.of {
			out.parts = append(out.parts, own)
			placed = true
		}
		if gone.coef.Sign() > 0 {
			p.coef = p.coef.Neg()
		}
		out.parts = append(out.parts, p)
	}
	if !placed {
		out.parts = append(out.parts, own)
	}
	return out
}

// put: the line with what by says in the place of by's unknown, which is a part with the coefficient coef.
func (l line) put(by line, coef arith.Int) (line, api.Errno) {
	common := arith.Gcd(coef, by.den)
	own, other := exact(by.den, common), exact(coef, common)
	den, err := arith.Mul(l.den, own)
	if err != api.OK {
		return line{}, err
	}
	at, _ := l.find(by.of)
	rest := slices.Concat(l.parts[:at], l.parts[at+1:])
	parts, err := merged(rest, own, by.parts, other)
	if err != api.OK {
		return line{}, err
	}
	out := line{of: l.of, den: den, parts: parts}
	out.lower()
	return out, api.OK
}

// merged: the parts of both lists, the first taken by p, the second by q, neither of them 0; they rise again, and what becomes 0 goes.
func merged(a []share, p arith.Int, b []share, q arith.Int) ([]share, api.Errno) {
	out := make([]share, 0, len(a)+len(b))
	for len(a) > 0 || len(b) > 0 {
		var next share
		var err api.Errno
		switch {
		case len(b) == 0 || len(a) > 0 && a[0].of < b[0].of:
			next, err = scaled(a[0], p)
			a = a[1:]
		case len(a) == 0 || b[0].of < a[0].of:
			next, err = scaled(b[0], q)
			b = b[1:]
		default:
			next, err = joined(a[0], p, b[0], q)
			a, b = a[1:], b[1:]
		}
		if err != api.OK {
			return nil, err
		}
		if next.coef.Sign() != 0 {
			out = append(out, next)
		}
	}
	return out, api.OK
}

func scaled(s share, by arith.Int) (share, api.Errno) {
	coef, err := arith.Mul(s.coef, by)
	return share{of: s.of, coef: coef}, err
}

// joined: two shares of one unknown, each taken by a number.
func joined(a share, p arith.Int, b share, q arith.Int) (share, api.Errno) {
	one, err := arith.Mul(a.coef, p)
	if err != api.OK {
		return share{}, err
	}
	other, err := arith.Mul(b.coef, q)
	if err != api.OK {
		return share{}, err
	}
	coef, err := arith.Add(one, other)
	return share{of: a.of, coef: coef}, err
}

// lower divides the line, which nobody else holds yet, by what divides all its numbers.
func (l *line) lower() {
	common := l.den
	for _, p := range l.parts {
		if common.Bits() == 1 {
			return
		}
		common = arith.Gcd(common, p.coef)
	}
	l.den = exact(l.den, common)
	for i, p := range l.parts {
		l.parts[i].coef = exact(p.coef, common)
	}
}

// exact: a by b, which divides it and isn't 0.
func exact(a, b arith.Int) arith.Int {
	q, _, _ := arith.Div(a, b)
	return q
}
