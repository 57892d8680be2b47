package linear

import (
	"slices"

	"surety/api"
	"surety/arith"
)

// Add: both together.
func Add(a, b Term) (Term, api.Errno) {
	rest, err := arith.Add(a.rest, b.rest)
	if err != api.OK {
		return Term{}, err
	}
	parts, err := merged(a.parts, b.parts)
	if err != api.OK {
		return Term{}, err
	}
	return Term{parts: parts, rest: rest}, api.OK
}

// merged: both lists in one, their variables rising again; a coefficient that becomes 0 goes.
func merged(a, b []part) ([]part, api.Errno) {
	out := make([]part, 0, len(a)+len(b))
	for len(a) > 0 && len(b) > 0 {
		switch {
		case a[0].v < b[0].v:
			out, a = append(out, a[0]), a[1:]
		case a[0].v > b[0].v:
			out, b = append(out, b[0]), b[1:]
		default:
			sum, err := arith.Add(a[0].coef, b[0].coef)
			if err != api.OK {
				return nil, err
			}
			if sum.Sign() != 0 {
				out = append(out, part{v: a[0].v, coef: sum})
			}
			a, b = a[1:], b[1:]
		}
	}
	out = append(out, a...)
	return append(out, b...), api.OK
}

// Sub: a less b.
func Sub(a, b Term) (Term, api.Errno) { return Add(a, b.Neg()) }

// Scale: a term taken by a number.
func Scale(t Term, by arith.Int) (Term, api.Errno) {
	if by.Sign() == 0 {
		// Every coefficient would become 0, and so go.
		return Term{}, api.OK
	}
	rest, err := arith.Mul(t.rest, by)
	if err != api.OK {
		return Term{}, err
	}
	parts := make([]part, len(t.parts))
	for i, p := range t.parts {
		coef, err := arith.Mul(p.coef, by)
		if err != api.OK {
			return Term{}, err
		}
		parts[i] = part{v: p.v, coef: coef}
	}
	return Term{parts: parts, rest: rest}, api.OK
}

// Neg: 0 less it.
func (t Term) Neg() Term {
	parts := make([]part, len(t.parts))
	for i, p := range t.parts {
		parts[i] = part{v: p.v, coef: p.coef.Neg()}
	}
	return Term{parts: parts, rest: t.rest.Neg()}
}

// Put: a term in the place of a variable.
func Put(t Term, v int, by Term) (Term, api.Errno) {
	at, ok := t.place(v)
	if !ok {
		return t.copied(), api.OK
	}
	scaled, err := Scale(by, t.parts[at].coef)
	if err != api.OK {
		return Term{}, err
	}
	return Add(t.without(at), scaled)
}

// copied: the same term, whose parts nobody else holds.
func (t Term) copied() Term { return Term{parts: slices.Clone(t.parts), rest: t.rest} }

// without: the term without the part at a place.
func (t Term) without(at int) Term {
	return Term{parts: slices.Concat(t.parts[:at], t.parts[at+1:]), rest: t.rest}
}

// At: the value at some values of the variables; one that has none is 0.
func (t Term) At(values []arith.Int) (arith.Int, api.Errno) {
	sum := t.rest
	for _, p := range t.parts {
		if p.v >= len(values) {
			break
		}
		product, err := arith.Mul(p.coef, values[p.v])
		if err != api.OK {
			return arith.Int{}, err
		}
		sum, err = arith.Add(sum, product)
		if err != api.OK {
			return arith.Int{}, err
		}
	}
	return sum, api.OK
}
