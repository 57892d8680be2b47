package linear

import (
	"maps"
	"slices"

	"surety/api"
	"surety/arith"
)

// Row says that a sum of variables is at most a number.
type Row struct {
	Sum  Term // its number is 0
	Most arith.Int
}

// Read: a row that is given as plain data.
func Read(r api.Row) (Row, api.Errno) {
	if len(r.Sum) > api.MaxVars {
		return Row{}, api.ErrLong
	}
	most, err := arith.Parse(r.Most)
	if err != api.OK {
		return Row{}, err
	}
	coefs, err := gathered(r.Sum)
	if err != api.OK {
		return Row{}, err
	}
	return Row{Sum: sumOf(coefs), Most: most}, api.OK
}

// gathered: what each variable's coefficients come to, which may be 0.
func gathered(list []api.Mono) (map[int]arith.Int, api.Errno) {
	coefs := make(map[int]arith.Int)
	for _, m := range list {
		if !isVar(m.Var) {
			return nil, api.ErrVar
		}
		coef, err := arith.Parse(m.Coef)
		if err != api.OK {
			return nil, err
		}
		sum, err := arith.Add(coefs[m.Var], coef)
		if err != api.OK {
			return nil, err
		}
		coefs[m.Var] = sum
	}
	return coefs, api.OK
}

// sumOf: the term of some variables' coefficients, those that are 0 left out.
func sumOf(coefs map[int]arith.Int) Term {
	var parts []part
	for _, v := range slices.Sorted(maps.Keys(coefs)) {
		if coefs[v].Sign() != 0 {
			parts = append(parts, part{v: v, coef: coefs[v]})
		}
	}
	return Term{parts: parts}
}

// Plain: as plain data, the variables rising.
func (r Row) Plain() api.Row {
	var list []api.Mono
	for _, p := range r.Sum.parts {
		list = append(list, api.Mono{Var: p.v, Coef: p.coef.Text()})
	}
	return api.Row{Sum: list, Most: r.Most.Text()}
}

// AtMost: the row that says that a term is at most 0.
func AtMost(t Term) Row {
	return Row{Sum: Term{parts: slices.Clone(t.parts)}, Most: t.rest.Neg()}
}

// Tight: the row that says the same of whole numbers, without a common divisor.
func (r Row) Tight() Row {
	g := r.Sum.Common()
	tight := Row{Sum: r.Sum.copied(), Most: r.Most}
	if g.Bits() < 2 {
		// Nothing, or 1 alone, divides all coefficients.
		return tight
	}
	for i, p := range tight.Sum.parts {
		tight.Sum.parts[i].coef = roundedDown(p.coef, g)
	}
	tight.Most = roundedDown(r.Most, g)
	return tight
}

// roundedDown: a by b, which is above 0.
func roundedDown(a, b arith.Int) arith.Int {
	q, _, _ := arith.Div(a, b)
	return q
}

// Not: the row that says of whole numbers that this one doesn't hold: the sum is at least one more.
func (r Row) Not() (Row, api.Errno) {
	more, err := arith.Add(r.Most, arith.From(1))
	if err != api.OK {
		return Row{}, err
	}
	return Row{Sum: r.Sum.Neg(), Most: more.Neg()}, api.OK
}

// Holds: does a row hold at some values?
func (r Row) Holds(values []arith.Int) (bool, api.Errno) {
	value, err := r.Sum.At(values)
	if err != api.OK {
		return false, err
	}
	return arith.Cmp(value, r.Most) <= 0, api.OK
}
