package simplex

import (
	"slices"

	"surety/api"
	"surety/arith"
	"surety/linear"
	"surety/ratio"
)

// bound says that an unknown is at most, or at least, a number.
type bound struct {
	there bool
	at    ratio.Rat
	row   int       // the row that says so;
	scale arith.Int // its sum is the unknown, or its opposite, taken by this number above 0
}

// unknown is a variable, or a sum of several that is reckoned with as one. Rows whose sums are alike but for a factor bound one unknown, so that what is searched is no larger than it need be.
type unknown struct {
	low, high bound
	value     ratio.Rat
	side      int       // -1, 0 or 1, as the value is below low, within the bounds, or above high
	excess    ratio.Rat // how far it is beyond the bound that it breaks; 0 too, if that has too many bits
	uses      int       // how many lines have it as a part
}

// isFree: may it be any number?
func (u *unknown) isFree() bool { return !u.low.there && !u.high.there }

// set: the value.
func (u *unknown) set(value ratio.Rat) {
	u.value, u.side, u.excess = value, 0, ratio.Rat{}
	if u.low.there && ratio.Cmp(value, u.low.at) < 0 {
		u.side = -1
		u.excess, _ = ratio.Sub(u.low.at, value)
	} else if u.high.there && ratio.Cmp(value, u.high.at) > 0 {
		u.side = 1
		u.excess, _ = ratio.Sub(value, u.high.at)
	}
}

// broken: the bound that the value breaks; for one whose side isn't 0.
func (u *unknown) broken() bound {
	if u.side < 0 {
		return u.low
	}
	return u.high
}

// canGo: up, or down, without breaking a bound?
func (u *unknown) canGo(up bool) bool {
	if up {
		return !u.high.there || ratio.Cmp(u.value, u.high.at) < 0
	}
	return !u.low.there || ratio.Cmp(u.value, u.low.at) > 0
}

// limit: up, or down.
func (u *unknown) limit(up bool) bound {
	if up {
		return u.high
	}
	return u.low
}

// nearest: of the values within the bounds the one next to 0.
func (u *unknown) nearest() ratio.Rat {
	if u.low.there && u.low.at.Sign() > 0 {
		return u.low.at
	}
	if u.high.there && u.high.at.Sign() < 0 {
		return u.high.at
	}
	return ratio.Rat{}
}

// take: a row bounds the unknown. Of bounds that are alike the first one stays.
func (u *unknown) take(row int, most, by arith.Int) {
	at, _ := ratio.Of(most, by)
	b := bound{there: true, at: at, row: row, scale: by.Abs()}
	if by.Sign() > 0 {
		if !u.high.there || ratio.Cmp(at, u.high.at) < 0 {
			u.high = b
		}
		return
	}
	if !u.low.there || ratio.Cmp(at, u.low.at) > 0 {
		u.low = b
	}
}

// direction: a sum that isn't 0, divided by the number that is answered too, so that nothing but 1 divides its coefficients, and the first of them is above 0. Sums that are alike but for a factor have one direction.
func direction(sum linear.Term) (linear.Term, arith.Int) {
	by := sum.Common()
	lowest := linear.Row{Sum: sum}.Tight().Sum
	if sum.Coef(sum.Vars()[0]).Sign() < 0 {
		return lowest.Neg(), by.Neg()
	}
	return lowest, by
}

// newTableau: of rows. The unknowns are first their variables, rising, then sums of several, as they come; each of these has a line.
func newTableau(rows []linear.Row) *tableau {
	vars := named(rows)
	t := &tableau{rows: rows, vars: vars, unknowns: make([]unknown, len(vars)), sums: map[string]int{}}
	for i, r := range rows {
		if r.Sum.IsNum() {
			continue
		}
		sum, by := direction(r.Sum)
		t.unknowns[t.place(sum)].take(i, r.Most, by)
	}
	t.patience = 10 * len(t.unknowns)
	return t
}

// place: of a direction among the unknowns.
func (t *tableau) place(sum linear.Term) int {
	vars := sum.Vars()
	if len(vars) == 1 {
		at, _ := slices.BinarySearch(t.vars, vars[0])
		return at
	}
	text := sum.Text()
	if at, ok := t.sums[text]; ok {
		return at
	}
	at := len(t.unknowns)
	t.sums[text] = at
	t.unknowns = append(t.unknowns, unknown{})
	l := line{of: at, den: arith.From(1)}
	for _, v := range vars {
		part, _ := slices.BinarySearch(t.vars, v)
		l.parts = append(l.parts, share{of: part, coef: sum.Coef(v)})
	}
	t.lines = append(t.lines, l)
	t.count(l, 1)
	return at
}

// clash: reasons why nothing fulfils the rows that show without a search, if there are any.
func (t *tableau) clash() []reason {
	one := arith.From(1)
	for i, r := range t.rows {
		if r.Sum.IsNum() && r.Most.Sign() < 0 {
			return []reason{{by: bound{row: i, scale: one}, weight: one}}
		}
	}
	for _, u := range t.unknowns {
		if u.low.there && u.high.there && ratio.Cmp(u.low.at, u.high.at) > 0 {
			return []reason{{by: u.low, weight: one}, {by: u.high, weight: one}}
		}
	}
	return nil
}

// start: values of the variables within their bounds, and what the sums are then.
func (t *tableau) start() api.Errno {
	for i := range t.vars {
		u := &t.unknowns[i]
		u.set(u.nearest())
	}
	for _, l := range t.lines {
		value, err := t.valueOf(l)
		if err != api.OK {
			return err
		}
		t.unknowns[l.of].set(value)
	}
	return api.OK
}
