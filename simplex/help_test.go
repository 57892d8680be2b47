package simplex_test

import (
	"math/big"
	"slices"
	"strconv"
	"testing"

	"surety/api"
	"surety/linear"
	"surety/simplex"
)

// The tests hold the package against Fourier's and Motzkin's way of deciding rows, and values and factors against math/big's numbers; but for the one of the rule by which a search ends, they know of it only what its exported calls tell.

// dice is a row of numbers that is always the same.
type dice uint64

func (d *dice) next(below int) int {
	*d = *d*6364136223846793005 + 1442695040888963407
	return int(uint64(*d)>>33) % below
}

// number: from 0 less most to most.
func (d *dice) number(most int) int { return d.next(2*most+1) - most }

// row: most, and variables and coefficients in turn.
func row(most int, list ...int) api.Row {
	r := api.Row{Most: strconv.Itoa(most)}
	for i := 0; i < len(list); i += 2 {
		r.Sum = append(r.Sum, api.Mono{Var: list[i], Coef: strconv.Itoa(list[i+1])})
	}
	return r
}

// bigRow is row with numbers of any size.
func bigRow(most *big.Int, list ...any) api.Row {
	r := api.Row{Most: most.String()}
	for i := 0; i < len(list); i += 2 {
		r.Sum = append(r.Sum, api.Mono{Var: list[i].(int), Coef: list[i+1].(*big.Int).String()})
	}
	return r
}

// power: 2^k + more.
func power(k uint, more int64) *big.Int {
	n := new(big.Int).Lsh(big.NewInt(1), k)
	return n.Add(n, big.NewInt(more))
}

func minus(n *big.Int) *big.Int { return new(big.Int).Neg(n) }

// opposite: a row that says that the sum is at least what the row has as Most.
func opposite(r api.Row) api.Row {
	out := api.Row{Most: negText(r.Most)}
	for _, m := range r.Sum {
		out.Sum = append(out.Sum, api.Mono{Var: m.Var, Coef: negText(m.Coef)})
	}
	return out
}

func negText(s string) string { return minus(whole(s)).String() }

func whole(s string) *big.Int {
	n, ok := new(big.Int).SetString(s, 10)
	if !ok {
		panic("no number: " + s)
	}
	return n
}

func rat(s string) *big.Rat {
	x, ok := new(big.Rat).SetString(s)
	if !ok {
		panic("no number: " + s)
	}
	return x
}

func read(t testing.TB, list ...api.Row) []linear.Row {
	t.Helper()
	var out []linear.Row
	for _, r := range list {
		x, err := linear.Read(r)
		if err != api.OK {
			t.Fatalf("%v: error %d", r, err)
		}
		out = append(out, x)
	}
	return out
}

// system: of these rows.
func system(t testing.TB, rows ...api.Row) *simplex.System {
	t.Helper()
	s := simplex.New()
	if s == nil {
		t.Fatal("New: nil")
	}
	add(t, s, rows...)
	return s
}

// add: rows that must get the next numbers.
func add(t testing.TB, s *simplex.System, rows ...api.Row) {
	t.Helper()
	for _, r := range read(t, rows...) {
		count := s.Rows()
		if n, err := s.Add(r); n != count || err != api.OK || s.Rows() != count+1 {
			t.Fatalf("Add: number %d, error %d, %d rows; want %d", n, err, s.Rows(), count)
		}
	}
}

func cut(t testing.TB, s *simplex.System, n int) {
	t.Helper()
	if err := s.Cut(n); err != api.OK || s.Rows() != n {
		t.Fatalf("Cut(%d): error %d, %d rows", n, err, s.Rows())
	}
}

// solve: with that verdict, which the values or factors must bear out; the steps are within the budget.
func solve(t testing.TB, s *simplex.System, rows []api.Row, budget int, want api.Verdict) {
	t.Helper()
	got := s.Solve(budget)
	if got != want {
		t.Fatalf("%v: Solve(%d) is %d; want %d", rows, budget, got, want)
	}
	wantBorneOut(t, s, rows, got)
	if s.Steps() < 0 || s.Steps() > max(budget, 0) {
		t.Fatalf("%v: Solve(%d) took %d steps", rows, budget, s.Steps())
	}
}

// wantBorneOut: behind a verdict the values fulfil the rows, the factors show that nothing does; what the verdict isn't has nothing.
func wantBorneOut(t testing.TB, s *simplex.System, rows []api.Row, verdict api.Verdict) {
	t.Helper()
	if verdict == api.Sat {
		for _, r := range rows {
			if !holds(s, r) {
				t.Fatalf("%v: %v doesn't hold", rows, r)
			}
		}
	} else {
		wantNoValues(t, s, rows)
	}
	parts := s.Parts()
	if verdict != api.Unsat && len(parts) != 0 {
		t.Fatalf("%v: verdict %d, with parts %v", rows, verdict, parts)
	}
	if verdict == api.Unsat && (!refutes(rows, parts) || simplex.Shows(read(t, rows...), parts) != api.OK) {
		t.Fatalf("%v: parts %v show nothing", rows, parts)
	}
}

// wantNoValues: those of the rows' variables are 0.
func wantNoValues(t testing.TB, s *simplex.System, rows []api.Row) {
	t.Helper()
	for _, r := range rows {
		for _, m := range r.Sum {
			wantValue(t, s, m.Var, "0")
		}
	}
}

func wantValue(t testing.TB, s *simplex.System, v int, want string) {
	t.Helper()
	if got := s.Value(v).Text(); got != want {
		t.Fatalf("Value(%d) is %s; want %s", v, got, want)
	}
}

func wantParts(t testing.TB, s *simplex.System, want ...api.Part) {
	t.Helper()
	if got := s.Parts(); !slices.Equal(got, want) {
		t.Fatalf("Parts: %v; want %v", got, want)
	}
}

func wantVars(t testing.TB, s *simplex.System, want ...int) {
	t.Helper()
	if got := s.Vars(); !slices.Equal(got, want) {
		t.Fatalf("Vars: %v; want %v", got, want)
	}
}

// holds: does a row, at the system's values?
func holds(s *simplex.System, r api.Row) bool {
	sum := new(big.Rat)
	for _, m := range r.Sum {
		product := rat(s.Value(m.Var).Text())
		sum.Add(sum, product.Mul(product, rat(m.Coef)))
	}
	return sum.Cmp(rat(r.Most)) <= 0
}

// refutes: do the rows, taken by their factors and added, say that 0 is at most less than 0? By the chapter's words, with numbers of any size.
func refutes(rows []api.Row, parts []api.Part) bool {
	most := new(big.Rat)
	coefs := map[int]*big.Rat{}
	for i, p := range parts {
		if p.Row < 0 || p.Row >= len(rows) || i > 0 && p.Row <= parts[i-1].Row || rat(p.Mult).Sign() <= 0 {
			return false
		}
		most.Add(most, new(big.Rat).Mul(rat(rows[p.Row].Most), rat(p.Mult)))
		for _, m := range rows[p.Row].Sum {
			if coefs[m.Var] == nil {
				coefs[m.Var] = new(big.Rat)
			}
			coefs[m.Var].Add(coefs[m.Var], new(big.Rat).Mul(rat(m.Coef), rat(p.Mult)))
		}
	}
	for _, c := range coefs {
		if c.Sign() != 0 {
			return false
		}
	}
	return most.Sign() < 0
}

// dense is a row over variables 0, 1, ..: the coefficients, and behind them Most.
type dense []*big.Rat

// denseRows: of rows over some variables.
func denseRows(rows []api.Row, vars []int) []dense {
	var out []dense
	for _, r := range rows {
		d := make(dense, len(vars)+1)
		for i := range d {
			d[i] = new(big.Rat)
		}
		for _, m := range r.Sum {
			at := slices.Index(vars, m.Var)
			d[at].Add(d[at], rat(m.Coef))
		}
		d[len(vars)].Set(rat(r.Most))
		out = append(out, d)
	}
	return out
}

// mentioned: the variables of rows, those with a coefficient of 0 too.
func mentioned(rows []api.Row) []int {
	var out []int
	for _, r := range rows {
		for _, m := range r.Sum {
			out = append(out, m.Var)
		}
	}
	slices.Sort(out)
	return slices.Compact(out)
}

// decided: can rows be fulfilled? Variable by variable: each row that bounds it below is added to each that bounds it above, so that it goes.
func decided(rows []api.Row) api.Verdict {
	vars := mentioned(rows)
	list := denseRows(rows, vars)
	for v := range vars {
		var next, above, below []dense
		for _, d := range list {
			switch d[v].Sign() {
			case 0:
				next = append(next, d)
			case 1:
				above = append(above, d.by(v))
			case -1:
				below = append(below, d.by(v))
			}
		}
		for _, a := range above {
			for _, b := range below {
				next = append(next, a.plus(b))
			}
		}
		list = next
	}
	for _, d := range list {
		if d[len(vars)].Sign() < 0 {
			return api.Unsat
		}
	}
	return api.Sat
}

// by: divided by a variable's coefficient without its sign.
func (d dense) by(v int) dense {
	factor := new(big.Rat).Inv(new(big.Rat).Abs(d[v]))
	out := make(dense, len(d))
	for i, x := range d {
		out[i] = new(big.Rat).Mul(x, factor)
	}
	return out
}

func (d dense) plus(o dense) dense {
	out := make(dense, len(d))
	for i, x := range d {
		out[i] = new(big.Rat).Add(x, o[i])
	}
	return out
}

// example: the chapter's.
func example() []api.Row { return []api.Row{row(1, 0, 1, 1, 1), row(-1, 0, -1), row(-1, 1, -1)} }

// smallVars: those of which small systems are; the ends are among them.
func smallVars() []int { return []int{0, 2, 77, api.MaxVars - 1} }

// smallSystem: at most 6 rows over at most 4 variables, no number above 9 without its sign.
func (d *dice) smallSystem() []api.Row {
	vars := smallVars()[:1+d.next(4)]
	chance := 1 + d.next(4)
	size := 1 + d.next(9)
	var out []api.Row
	for range 1 + d.next(6) {
		r := row(d.number(size))
		for _, v := range vars {
			if d.next(4) < chance {
				r.Sum = append(r.Sum, api.Mono{Var: v, Coef: strconv.Itoa(d.number(size))})
			}
		}
		out = append(out, r)
		if len(out) < 6 && d.next(5) == 0 {
			out = append(out, opposite(r))
		}
	}
	return out[:min(len(out), 6)]
}
