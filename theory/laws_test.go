package theory_test

import (
	"slices"
	"strconv"
	"testing"

	"surety/api"
	"surety/theory"
)

// smallModel: of the names of smallTerm, at the values that small terms have.
func (d *dice) smallModel() api.Model {
	var m api.Model
	for _, name := range []string{"x", "y", "z"} {
		m.Vars = append(m.Vars, value(name, strconv.Itoa(d.number(2))))
	}
	for i := -4; i <= 4; i++ {
		m.Funs = append(m.Funs, entry("f", strconv.Itoa(d.number(2)), strconv.Itoa(i)))
		for j := -4; j <= 4; j++ {
			m.Funs = append(m.Funs, entry("g", strconv.Itoa(d.number(2)), strconv.Itoa(i), strconv.Itoa(j)))
		}
	}
	return m
}

// holding: literals that hold in a model, and what they are with opposites taken for themselves.
func (d *dice) holding(t testing.TB, m api.Model, most int) []theory.Lit {
	list := d.anyLits(most)
	for i, l := range list {
		is, ok := judged(l.Atom, m)
		if !ok {
			t.Fatal("too large")
		}
		list[i].Neg = !is
	}
	return list
}

// P8.7: literals that hold in some model are never told not to hold together.
func TestNeverUnsat(t *testing.T) {
	d := dice(23)
	sat := 0
	for range 4000 {
		m := d.smallModel()
		list := d.holding(t, m, 12)
		if !hold(t, list, m) {
			t.Fatal("they don't hold")
		}
		for _, budget := range []int{d.next(6), enough} {
			switch check(t, list, budget).Verdict {
			case api.Unsat:
				t.Fatalf("%s: Unsat, but %v", showLits(list), m)
			case api.Sat:
				sat++
			}
		}
		if got := decided(t, list, 6); got == api.Unsat {
			t.Fatalf("%s: decided, Unsat, but %v", showLits(list), m)
		}
	}
	if sat < 4000 {
		t.Errorf("only %d are Sat", sat)
	}
}

// P8.6, P8.7: nothing shows of such literals that they don't hold together: neither proofs of others, nor these with something changed.
func TestNothingShows(t *testing.T) {
	d := dice(29)
	var proofs []theory.Proof
	for len(proofs) < 300 {
		list := d.anyLits(10)
		if a := check(t, list, enough); a.Verdict == api.Unsat {
			proofs = append(proofs, a.Proof)
		}
	}
	for range 1500 {
		m := d.smallModel()
		list := d.holding(t, m, 12)
		for range 20 {
			p := d.changed(proofs[d.next(len(proofs))], len(list))
			if theory.Shows(list, p) == api.OK {
				t.Fatalf("%s: %v shows it, but %v", showLits(list), p, m)
			}
		}
	}
}

// changed: a proof, with other places, terms, kinds, or factors here and there.
func (d *dice) changed(p theory.Proof, count int) theory.Proof {
	places := func(list []int) []int {
		list = slices.Clone(list)
		for i := range list {
			if list[i] >= count || d.next(3) == 0 {
				list[i] = d.next(count)
			}
		}
		return list
	}
	p.Lits = places(p.Lits)
	if p.Apart && p.Bad >= count {
		p.Bad = d.next(count)
	}
	if d.next(3) == 0 {
		p.A = d.smallTerm(2)
	}
	p.Steps = slices.Clone(p.Steps)
	for i := range p.Steps {
		p.Steps[i].Lits = places(p.Steps[i].Lits)
		switch d.next(6) {
		case 0:
			p.Steps[i].Kind = 1 + d.next(5)
		case 1:
			p.Steps[i].A, p.Steps[i].B = p.Steps[i].B, p.Steps[i].A
		case 2:
			p.Steps[i].A, p.Steps[i].B = d.smallTerm(2), d.smallTerm(2)
		}
	}
	return p
}

// P8.5, P8.6: small literals are held against all values of their variables within bounds: where none does, it is never Sat; where some do, never Unsat.
func TestAgainstAllValues(t *testing.T) {
	d := dice(31)
	names := []string{"x", "y", "z"}
	var verdicts [3]int
	for range 1500 {
		list := d.linearLits()
		for _, name := range names {
			list = append(list, yes(le(num(-2), v(name))), yes(le(v(name), num(2))))
		}
		want := api.Unsat
		for i := range 125 {
			m := api.Model{Vars: []api.Value{value("x", strconv.Itoa(i%5-2)), value("y", strconv.Itoa(i/5%5-2)), value("z", strconv.Itoa(i/25-2))}}
			if hold(t, list, m) {
				want = api.Sat
				break
			}
		}
		got := decided(t, list, 12)
		if got != want {
			t.Fatalf("%s: %d; want %d", showLits(list), got, want)
		}
		verdicts[got]++
	}
	if verdicts[api.Sat] < 300 || verdicts[api.Unsat] < 300 {
		t.Errorf("%v", verdicts)
	}
}

// linearLits: without functions.
func (d *dice) linearLits() []theory.Lit {
	var list []theory.Lit
	for range 1 + d.next(5) {
		var sides [2]api.Form
		for i := range sides {
			sides[i] = add(mul(d.number(3), x()), mul(d.number(3), y()), mul(d.number(2), z()), num(d.number(4)))
		}
		list = append(list, theory.Lit{Atom: form(api.FLe+d.next(2), "", sides[0], sides[1]), Neg: d.next(2) == 0})
	}
	return list
}
