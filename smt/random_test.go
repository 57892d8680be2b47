package smt_test

import (
	"strconv"

	"surety/api"
)

// smallTerm: of three variables, a function of one argument, and one of two.
func (d *dice) smallTerm(depth int) api.Form {
	kind := d.next(9)
	if depth == 0 {
		kind = d.next(4)
	}
	switch kind {
	case 0, 1, 2:
		return v([]string{"x", "y", "z"}[kind])
	case 3:
		return num(d.number(2))
	case 4:
		return add(d.smallTerm(depth-1), num(d.number(1)))
	case 5:
		return add(d.smallTerm(depth-1), mul(d.number(2), d.smallTerm(depth-1)))
	case 6, 7:
		return f(d.smallTerm(depth - 1))
	}
	return g(d.smallTerm(depth-1), d.smallTerm(depth-1))
}

// linearTerm: without functions.
func (d *dice) linearTerm() api.Form {
	return add(mul(d.number(2), x()), mul(d.number(2), y()), mul(d.number(1), z()), num(d.number(3)))
}

// anyBool: one of so many Boolean variables.
func (d *dice) anyBool(count int) api.Form { return boolean("b" + strconv.Itoa(d.next(count))) }

// anyAtom: a Boolean variable, or a statement about terms.
func (d *dice) anyAtom(term func() api.Form) api.Form {
	if d.next(4) == 0 {
		return d.anyBool(3)
	}
	return form(api.FLe+d.next(2), "", term(), term())
}

// anyFormula: made of atoms, at most so deep.
func (d *dice) anyFormula(depth int, atom func() api.Form) api.Form {
	if depth == 0 || d.next(5) == 0 {
		return atom()
	}
	part := func() api.Form { return d.anyFormula(depth-1, atom) }
	switch kind := d.next(8); kind {
	case 0:
		return not(part())
	case 1:
		return imp(part(), part())
	case 2:
		return iff(part(), part())
	default:
		var parts []api.Form
		for range d.next(4) {
			parts = append(parts, part())
		}
		return form(api.FAnd+kind%2, "", parts...)
	}
}

// shared: a formula with terms of functions.
func (d *dice) shared(depth int) api.Form {
	return d.anyFormula(depth, func() api.Form { return d.anyAtom(func() api.Form { return d.smallTerm(2) }) })
}

// linear: one without functions.
func (d *dice) linear(depth int) api.Form {
	return d.anyFormula(depth, func() api.Form { return d.anyAtom(d.linearTerm) })
}

// pure: one of Boolean variables alone.
func (d *dice) pure(depth, count int) api.Form {
	return d.anyFormula(depth, func() api.Form { return d.anyBool(count) })
}

// smallModel: of the names of small formulas.
func (d *dice) smallModel() api.Model {
	var m api.Model
	for _, name := range []string{"x", "y", "z"} {
		m.Vars = append(m.Vars, value(name, strconv.Itoa(d.number(2))))
	}
	for i := range 3 {
		m.Bools = append(m.Bools, value("b"+strconv.Itoa(i), strconv.Itoa(d.next(2))))
	}
	for i := -6; i <= 6; i++ {
		m.Funs = append(m.Funs, entry("f", strconv.Itoa(d.number(2)), strconv.Itoa(i)))
		for j := -6; j <= 6; j++ {
			m.Funs = append(m.Funs, entry("g", strconv.Itoa(d.number(2)), strconv.Itoa(i), strconv.Itoa(j)))
		}
	}
	return m
}

// trueIn: a formula, or its opposite.
func trueIn(tree api.Form, m api.Model) api.Form {
	if judged(tree, m) {
		return tree
	}
	return not(tree)
}
