package simplex

import (
	"surety/api"
	"surety/arith"
	"surety/linear"
	"surety/ratio"
)

// total is rows that were taken by factors and added.
type total struct {
	most  ratio.Rat
	coefs map[int]ratio.Rat // by variable; what has become 0 stays
}

// Shows: do factors of rows show that nothing fulfils them?
func Shows(rows []linear.Row, parts []api.Part) api.Errno {
	sum := total{coefs: map[int]ratio.Rat{}}
	ahead := -1
	for _, p := range parts {
		if p.Row <= ahead || p.Row >= len(rows) {
			return api.ErrRow
		}
		ahead = p.Row
		factor, err := ratio.Parse(p.Mult)
		if err != api.OK {
			return err
		}
		if factor.Sign() <= 0 {
			return api.ErrCert
		}
		if err := sum.add(rows[p.Row], factor); err != api.OK {
			return err
		}
	}
	if !sum.isFalse() {
		return api.ErrCert
	}
	return api.OK
}

// add: a row by its factor.
func (t *total) add(r linear.Row, factor ratio.Rat) api.Errno {
	most, err := plus(t.most, r.Most, factor)
	if err != api.OK {
		return err
	}
	t.most = most
	for _, v := range r.Sum.Vars() {
		coef, err := plus(t.coefs[v], r.Sum.Coef(v), factor)
		if err != api.OK {
			return err
		}
		t.coefs[v] = coef
	}
	return api.OK
}

// plus: a sum, and n taken by a factor.
func plus(sum ratio.Rat, n arith.Int, factor ratio.Rat) (ratio.Rat, api.Errno) {
	product, err := ratio.Mul(ratio.Whole(n), factor)
	if err != api.OK {
		return ratio.Rat{}, err
	}
	return ratio.Add(sum, product)
}

// isFalse: does it say that 0 is at most a number below 0?
func (t *total) isFalse() bool {
	for _, coef := range t.coefs {
		if coef.Sign() != 0 {
			return false
		}
	}
	return t.most.Sign() < 0
}
