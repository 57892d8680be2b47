package theory

import (
	"maps"
	"slices"
	"strconv"
	"strings"

	"surety/api"
	"surety/arith"
	"surety/linear"
)

// sum is a term as a sum of unknowns. Those that are alike have one number.
type sum struct {
	term   linear.Term
	number int
}

// pair is the two sums of a statement.
type pair [2]sum

// unknown is what sums are made of: a variable, or a function of arguments.
type unknown struct {
	form api.Form // as it was first met
	args []sum
}

func (u unknown) isFunction() bool { return u.form.Kind == api.TApp }

// table numbers unknowns and sums as they are met. The arguments of a function are met ahead of it.
type table struct {
	unknowns []unknown
	places   map[string]int // of unknowns, by their keys
	sums     map[string]int // numbers, by the sums' texts
}

func newTable() *table { return &table{places: map[string]int{}, sums: map[string]int{}} }

// sum: of a term.
func (t *table) sum(f api.Form) (sum, api.Errno) {
	term, err := t.termOf(f)
	if err != api.OK {
		return sum{}, err
	}
	text := term.Text()
	number, ok := t.sums[text]
	if !ok {
		number = len(t.sums)
		t.sums[text] = number
	}
	return sum{term: term, number: number}, api.OK
}

// sides: the sums of two terms.
func (t *table) sides(a, b api.Form) (pair, api.Errno) {
	left, err := t.sum(a)
	if err != api.OK {
		return pair{}, err
	}
	right, err := t.sum(b)
	if err != api.OK {
		return pair{}, err
	}
	return pair{left, right}, api.OK
}

// termOf: a term as layer 3 has it; its errors, where a number is too large or there are too many unknowns.
func (t *table) termOf(f api.Form) (linear.Term, api.Errno) {
	switch f.Kind {
	case api.TVar:
		return t.place("v"+f.Name, unknown{form: f})
	case api.TNum:
		n, err := arith.Parse(f.Name)
		return linear.Num(n), err
	case api.TAdd:
		return t.added(f.Args)
	case api.TMul:
		return t.scaled(f)
	}
	args, err := results(f.Args, t.sum)
	if err != api.OK {
		return linear.Term{}, err
	}
	return t.place(functionKey(f.Name, args), unknown{form: f, args: args})
}

// functionKey: no variable has it, and no function with another name or arguments that aren't alike.
func functionKey(name string, args []sum) string {
	var b strings.Builder
	b.WriteByte('f')
	writeMeasured(&b, name)
	for _, arg := range args {
		b.WriteByte(' ')
		b.WriteString(strconv.Itoa(arg.number))
	}
	return b.String()
}

// place: an unknown by itself, which is a new one, if none has that key.
func (t *table) place(key string, u unknown) (linear.Term, api.Errno) {
	at, ok := t.places[key]
	if !ok {
		at = len(t.unknowns)
	}
	term, err := linear.Var(at)
	if err != api.OK {
		return linear.Term{}, err
	}
	if !ok {
		t.places[key] = at
		t.unknowns = append(t.unknowns, u)
	}
	return term, api.OK
}

// scaled: of TMul.
func (t *table) scaled(f api.Form) (linear.Term, api.Errno) {
	by, err := arith.Parse(f.Name)
	if err != api.OK {
		return linear.Term{}, err
	}
	term, err := t.termOf(f.Args[0])
	if err != api.OK {
		return linear.Term{}, err
	}
	return linear.Scale(term, by)
}

// added: of TAdd.
func (t *table) added(parts []api.Form) (linear.Term, api.Errno) {
	total := tally{coefs: map[int]arith.Int{}}
	for _, f := range parts {
		term, err := t.termOf(f)
		if err != api.OK {
			return linear.Term{}, err
		}
		if err := total.add(term); err != api.OK {
			return linear.Term{}, err
		}
	}
	return total.term(), api.OK
}

// tally is a sum that is being made. What is added costs no more than itself, however much there is already.
type tally struct {
	coefs map[int]arith.Int
	rest  arith.Int
}

// add: ErrBig just where linear.Add, of what there is and this, answers it.
func (s *tally) add(term linear.Term) api.Errno {
	rest, err := arith.Add(s.rest, term.Rest())
	if err != api.OK {
		return err
	}
	s.rest = rest
	for _, v := range term.Vars() {
		coef, err := arith.Add(s.coefs[v], term.Coef(v))
		if err != api.OK {
			return err
		}
		s.coefs[v] = coef
	}
	return api.OK
}

func (s *tally) term() linear.Term {
	list := []linear.Term{linear.Num(s.rest)}
	for _, v := range slices.Sorted(maps.Keys(s.coefs)) {
		one, _ := linear.Var(v)
		term, _ := linear.Scale(one, s.coefs[v])
		list = append(list, term)
	}
	return together(list)
}

// together: terms that have no variable in common and at most one rest, so that nothing can be too large. By halves, so that none is copied often.
func together(list []linear.Term) linear.Term {
	if len(list) == 1 {
		return list[0]
	}
	half := len(list) / 2
	both, _ := linear.Add(together(list[:half]), together(list[half:]))
	return both
}

// lone: the unknown that a sum is, if it is one alone.
func (s sum) lone() (int, bool) {
	vars := s.term.Vars()
	if len(vars) != 1 || s.term.Rest().Sign() != 0 || arith.Cmp(s.term.Coef(vars[0]), arith.From(1)) != 0 {
		return 0, false
	}
	return vars[0], true
}

// isSameTwo: as another pair, in this order or the other one?
func (p pair) isSameTwo(q pair) bool {
	return p[0].number == q[0].number && p[1].number == q[1].number ||
		p[0].number == q[1].number && p[1].number == q[0].number
}

// atMost: the row that says that one sum is at most another; or, with less, that it is less.
func atMost(a, b sum, less bool) (linear.Row, api.Errno) {
	apart, err := linear.Sub(a.term, b.term)
	if err != api.OK {
		return linear.Row{}, err
	}
	row := linear.AtMost(apart)
	if less {
		row.Most, err = arith.Sub(row.Most, arith.From(1))
	}
	if err != api.OK {
		return linear.Row{}, err
	}
	return row, api.OK
}
