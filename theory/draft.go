package theory

import (
	"surety/api"
	"surety/arith"
	"surety/linear"
)

// draft is values as a model, or what keeps them from being one: quarrels.
type draft struct {
	model    api.Model
	quarrels int
	all      []linear.Row   // with which perhaps none of them would be left
	ways     [][]linear.Row // each of which would do away with the first
	atom     api.Form       // what should be decided, if none does; it shares memory with the literals
}

// guesses: what to try, one by one. Of many quarrels each by itself would take long.
func (d *draft) guesses() [][]linear.Row {
	if d.quarrels < 2 {
		return d.ways
	}
	return append([][]linear.Row{d.all}, d.ways...)
}

// draft: of values that fulfil the rows. ErrBig, if what a sum comes to is too large.
func (q *question) draft(values []arith.Int) (draft, api.Errno) {
	var d draft
	for i, l := range q.lits {
		if l.Atom.Kind != api.FEq || !l.Neg {
			continue
		}
		alike, err := areEqual(q.sides[i], values)
		if err != api.OK {
			return draft{}, err
		}
		if alike {
			d.undecided(l.Atom.Args, q.sides[i])
		}
	}
	if d.quarrels > 0 {
		return d, api.OK
	}
	return q.model(values)
}

// areEqual: the two sums, at values?
func areEqual(two pair, values []arith.Int) (bool, api.Errno) {
	left, err := two[0].term.At(values)
	if err != api.OK {
		return false, err
	}
	right, err := two[1].term.At(values)
	if err != api.OK {
		return false, err
	}
	return arith.Cmp(left, right) == 0, api.OK
}

// undecided: what a literal says isn't the same comes to the same; no literal says which of the two is at most the other.
func (d *draft) undecided(terms []api.Form, two pair) {
	d.quarrels++
	d.tellAllApart(two)
	if d.quarrels == 1 {
		d.atom = api.Form{Kind: api.FLe, Args: terms}
		d.tellApart(two)
	}
}

// tellAllApart: of two sums the first is less, beside what is said of others.
func (d *draft) tellAllApart(two pair) {
	if row, err := atMost(two[0], two[1], true); err == api.OK {
		d.all = append(d.all, row)
	}
}

// tellApart: two ways more: one of two sums is less, or the other.
func (d *draft) tellApart(two pair) {
	for _, turned := range []pair{two, {two[1], two[0]}} {
		if row, err := atMost(turned[0], turned[1], true); err == api.OK {
			d.ways = append(d.ways, []linear.Row{row})
		}
	}
}

// bringTogether: one way more: two unknowns are the same.
func (d *draft) bringTogether(a, b int) {
	var both []linear.Row
	for _, two := range [][2]int{{a, b}, {b, a}} {
		if row, err := between(two[0], two[1]); err == api.OK {
			both = append(both, row)
		}
	}
	d.ways = append(d.ways, both)
}

// model: of values at which no literal is in a quarrel; but it may be that a function would have two values.
func (q *question) model(values []arith.Int) (draft, api.Errno) {
	var d draft
	last := map[string]int{} // unknowns, by entryKey
	for i, u := range q.table.unknowns {
		num := valueAt(values, i)
		if !u.isFunction() {
			d.model.Vars = append(d.model.Vars, api.Value{Name: u.form.Name, Num: num.Text()})
			continue
		}
		args, err := argTexts(u, values)
		if err != api.OK {
			return draft{}, err
		}
		key := entryKey(u.form.Name, args)
		before, ok := last[key]
		last[key] = i
		if !ok {
			d.model.Funs = append(d.model.Funs, api.Entry{Fun: u.form.Name, Args: args, Num: num.Text()})
		} else if arith.Cmp(valueAt(values, before), num) != 0 {
			q.twofold(&d, before, i)
		}
	}
	return d, api.OK
}

func valueAt(values []arith.Int, at int) arith.Int {
	if at >= len(values) {
		return arith.Int{}
	}
	return values[at]
}

// argTexts: what a function's arguments come to, at values.
func argTexts(u unknown, values []arith.Int) ([]string, api.Errno) {
	var list []string
	for _, arg := range u.args {
		n, err := arg.term.At(values)
		if err != api.OK {
			return nil, err
		}
		list = append(list, n.Text())
	}
	return list, api.OK
}

// twofold: a function of arguments that come to the same has two values.
func (q *question) twofold(d *draft, a, b int) {
	d.quarrels++
	one, other := q.table.unknowns[a], q.table.unknowns[b]
	open := q.open(one, other)
	if len(open) > 0 {
		d.tellAllApart(pair{one.args[open[0]], other.args[open[0]]})
	}
	if d.quarrels > 1 {
		return
	}
	d.bringTogether(a, b)
	for _, i := range open {
		d.tellApart(pair{one.args[i], other.args[i]})
	}
	if len(open) > 0 {
		d.atom = api.Form{Kind: api.FEq, Args: []api.Form{one.form.Args[open[0]], other.form.Args[open[0]]}}
	}
}

// open: the places of arguments that aren't the same by the literals. There are some, if two functions of one name don't come to the same: else they would be the same too.
func (q *question) open(a, b unknown) []int {
	var list []int
	for i := range a.args {
		if !q.web.isSame(a.args[i], b.args[i]) {
			list = append(list, i)
		}
	}
	return list
}
