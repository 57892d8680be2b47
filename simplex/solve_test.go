package simplex_test

import (
	"math"
	"math/big"
	"slices"
	"strconv"
	"testing"

	"surety/api"
	"surety/simplex"
)

// enough: the budget with which a small system is never left open.
const enough = 5000

// The chapter's example, with its factors.
func TestExample(t *testing.T) {
	s := system(t, example()...)
	solve(t, s, example(), 100, api.Unsat)
	wantParts(t, s, api.Part{Row: 0, Mult: "1"}, api.Part{Row: 1, Mult: "1"}, api.Part{Row: 2, Mult: "1"})
}

// P6.2: systems whose verdict is plain: none, rows without variables, coefficients of 0, the same row twice, opposites, fractions alone.
func TestPlainVerdicts(t *testing.T) {
	for _, c := range []struct {
		want api.Verdict
		rows []api.Row
	}{
		{api.Sat, nil},
		{api.Sat, []api.Row{row(0)}},
		{api.Sat, []api.Row{row(7), row(0), row(-3, 0, 1)}},
		{api.Unsat, []api.Row{row(-1)}},
		{api.Unsat, []api.Row{row(3, 0, 1), row(-1), row(-2)}},
		{api.Unsat, []api.Row{row(-1, 0, 0)}},
		{api.Unsat, []api.Row{row(-1, 0, 2, 0, -2), row(1, 0, 1)}},
		{api.Sat, []api.Row{row(0, 0, 0, 1, 1)}},
		{api.Sat, []api.Row{row(-5, 0, 1)}},
		{api.Sat, []api.Row{row(-5, 0, 1), row(-5, 0, 1)}},
		{api.Sat, []api.Row{row(-5, 0, -1), row(5, 0, 1)}},
		{api.Unsat, []api.Row{row(-5, 0, -1), row(4, 0, 1)}},
		{api.Sat, []api.Row{row(-5, 0, -7), row(1, 0, 1)}},
		{api.Sat, []api.Row{row(1, 0, 2), row(-1, 0, -2)}},
		{api.Unsat, []api.Row{row(1, 0, 2), row(-2, 0, -3)}},
		{api.Sat, []api.Row{row(2, 0, 3), row(-1, 0, -2)}},
		{api.Sat, []api.Row{row(4, 0, 2, 1, 2), row(-2, 0, -1, 1, -1)}},
		{api.Unsat, []api.Row{row(3, 0, 2, 1, 2), row(-2, 0, -1, 1, -1)}},
		{api.Unsat, []api.Row{row(-1, 0, 1, 1, -1), row(-1, 1, 1, 2, -1), row(1, 2, 1, 0, -1)}},
		{api.Sat, []api.Row{row(-1, 0, 1, 1, -1), row(-1, 1, 1, 2, -1), row(2, 2, 1, 0, -1)}},
	} {
		solve(t, system(t, c.rows...), c.rows, enough, c.want)
		if v := decided(c.rows); v != c.want {
			t.Errorf("%v: the tests say %d, and %d", c.rows, c.want, v)
		}
	}
}

// P6.2: all systems of three rows over two variables with numbers from -1 to 1.
func TestAllTinySystems(t *testing.T) {
	var all []api.Row
	for i := range 27 {
		all = append(all, row(i%3-1, 0, i/3%3-1, 1, i/9-1))
	}
	for i, a := range all {
		for j, b := range all[i:] {
			for _, c := range all[i+j:] {
				rows := []api.Row{b, a, c}
				solve(t, system(t, rows...), rows, enough, decided(rows))
			}
		}
	}
}

// P6.2: small systems are never left open, and are as another way decides them.
func TestSmallSystems(t *testing.T) {
	d := dice(3)
	count := [3]int{}
	for range 12000 {
		rows := d.smallSystem()
		want := decided(rows)
		count[want]++
		solve(t, system(t, rows...), rows, enough, want)
	}
	if count[api.Sat] < 2000 || count[api.Unsat] < 2000 {
		t.Errorf("of %d and %d systems too few are Sat, or Unsat", count[api.Sat], count[api.Unsat])
	}
}

// P6.2: systems of six rows over four variables that are hardest: each row names all of them, and most just miss, or just meet, one point.
func TestTightSystems(t *testing.T) {
	d := dice(5)
	count := [3]int{}
	for range 3000 {
		var rows []api.Row
		for len(rows) < 6 {
			r := row(0, 0, d.number(9), 1, d.number(9), 2, d.number(9), 3, d.number(9))
			sum := 0
			for _, m := range r.Sum {
				sum += int(whole(m.Coef).Int64())
			}
			if sum = sum/4 - d.next(3); sum >= -9 && sum <= 9 {
				r.Most = big.NewInt(int64(sum)).String()
				rows = append(rows, r)
			}
		}
		want := decided(rows)
		count[want]++
		solve(t, system(t, rows...), rows, enough, want)
	}
	if count[api.Sat] < 100 || count[api.Unsat] < 100 {
		t.Errorf("of %d and %d systems too few are Sat, or Unsat", count[api.Sat], count[api.Unsat])
	}
}

// P6.2 and P6.3: equations, each as two rows, that one point alone fulfils, a fraction; and one row more that it doesn't.
func TestOnePoint(t *testing.T) {
	rows := []api.Row{row(1, 0, 2, 1, 3), row(2, 1, 5, 2, -1), row(-4, 0, 7, 2, 3)}
	for _, r := range slices.Clone(rows) {
		rows = append(rows, opposite(r))
	}
	s := system(t, rows...)
	solve(t, s, rows, enough, api.Sat)
	// 2x + 3y = 1, 5y - z = 2, 7x + 3z = -4: y = (1 - 2x) / 3, z = (-1 - 10x) / 3, -3x - 1 = -4.
	for v, want := range []string{"1", "-1/3", "-11/3"} {
		wantValue(t, s, v, want)
	}
	off := append(slices.Clone(rows), row(-5, 0, 0, 1, 1, 2, 1))
	solve(t, system(t, off...), off, enough, api.Unsat)
	on := append(slices.Clone(rows), row(-4, 0, 0, 1, 1, 2, 1))
	solve(t, system(t, on...), on, enough, api.Sat)
}

// P6.2: ahead of the first Solve no step was taken; behind it, Steps tells of the last one, whatever is added or cut.
func TestSteps(t *testing.T) {
	rows := example()
	s := system(t, rows...)
	if s.Steps() != 0 {
		t.Errorf("%d steps ahead of Solve", s.Steps())
	}
	solve(t, s, rows, enough, api.Unsat)
	took := s.Steps()
	if took == 0 {
		t.Error("Unsat in no step")
	}
	add(t, s, row(1, 9, 1))
	cut(t, s, 1)
	if s.Steps() != took {
		t.Errorf("%d steps became %d without a Solve", took, s.Steps())
	}
	solve(t, s, rows[:1], enough, api.Sat)
	if s.Steps() != 0 {
		t.Errorf("%d steps where the first values are right", s.Steps())
	}
}

// P6.2: with any budget the verdict is right or open, and the steps are within it; as many as were taken are enough.
func TestBudgets(t *testing.T) {
	d := dice(7)
	for range 300 {
		rows := d.smallSystem()
		want := decided(rows)
		s := system(t, rows...)
		solve(t, s, rows, enough, want)
		took := s.Steps()
		for _, budget := range []int{math.MinInt, -1, 0, 1, 2, took - 1} {
			if max(budget, 0) < took {
				solve(t, s, rows, budget, api.Unknown)
				solve(t, system(t, rows...), rows, budget, api.Unknown)
			}
		}
		for _, budget := range []int{took, took + 1, math.MaxInt} {
			solve(t, s, rows, budget, want)
			solve(t, system(t, rows...), rows, budget, want)
		}
	}
}

// P6.2: budgets of 0 and below it: no step is taken, and nothing is told but what is right.
func TestNoBudget(t *testing.T) {
	for _, budget := range []int{0, -1, math.MinInt} {
		s := system(t, example()...)
		solve(t, s, example(), budget, api.Unknown)
		solve(t, s, example(), enough, api.Unsat)
		solve(t, s, example(), budget, api.Unknown)
		rows := []api.Row{row(-1)}
		solve(t, system(t, rows...), rows, budget, api.Unknown)
		rows = []api.Row{row(0, 0, 1), row(-1, 0, -1)}
		solve(t, system(t, rows...), rows, budget, api.Unknown)
	}
}

// P6.2: where a value can't but have more than MaxBits bits, it is open; without that row it isn't.
func TestValueTooLarge(t *testing.T) {
	large := power(1000, 0)
	rows := []api.Row{
		bigRow(large, 0, big.NewInt(1)), bigRow(minus(large), 0, big.NewInt(-1)),
		bigRow(new(big.Int), 0, large, 1, big.NewInt(-1)),
		row(0, 2, 1),
	}
	s := system(t, rows...)
	solve(t, s, rows, enough, api.Unknown)
	cut(t, s, 2)
	solve(t, s, rows[:2], enough, api.Sat)
	wantValue(t, s, 0, large.String())
}

// P6.2 and P6.3: what has no factors within MaxBits bits is open, not Unsat.
func TestFactorsTooLarge(t *testing.T) {
	// x is at most about 1/4, and at least about 1: but what is added, of any factors, has the products of these numbers above or below.
	rows := []api.Row{bigRow(power(1021, 1), 0, power(1023, 1)), bigRow(minus(power(1022, 1)), 0, minus(power(1022, 3)))}
	s := system(t, rows...)
	if v := s.Solve(enough); v == api.Sat {
		t.Error("Sat of rows that nothing fulfils")
	} else {
		wantBorneOut(t, s, rows, v)
	}
}

// bigSystem: small numbers and large ones, near the ends among them.
func (d *dice) bigSystem() []api.Row {
	number := func() *big.Int {
		n := big.NewInt(int64(d.number(9)))
		if d.next(3) == 0 {
			n = power([]uint{62, 63, 64, 300, 511, 512, 1022, 1023}[d.next(8)], int64(d.number(2)))
		}
		if d.next(2) == 0 {
			return minus(n)
		}
		return n
	}
	var out []api.Row
	for range 1 + d.next(5) {
		r := bigRow(number())
		for v := range 3 {
			if d.next(2) == 0 {
				r.Sum = append(r.Sum, api.Mono{Var: v, Coef: number().String()})
			}
		}
		out = append(out, r)
	}
	return out
}

// P6.2: with numbers of any size a verdict is right, or open; each of the three comes up.
func TestLargeNumbers(t *testing.T) {
	d := dice(11)
	count := [3]int{}
	for range 3000 {
		rows := d.bigSystem()
		s := system(t, rows...)
		v := s.Solve(enough)
		count[v]++
		if v != api.Unknown && v != decided(rows) {
			t.Fatalf("%v: verdict %d", rows, v)
		}
		wantBorneOut(t, s, rows, v)
	}
	if slices.Min(count[:]) < 20 {
		t.Errorf("the verdicts came up %v times", count)
	}
}

// P6.2: larger systems, whose verdict is known as they are made: around a point, and with one row more that says that the sum of all is less than it can be.
func TestLargerSystems(t *testing.T) {
	d := dice(19)
	for _, vars := range []int{5, 10, 15, 20} {
		var rows []api.Row
		coefs, least := make([]int, vars), 0
		for range 2 * vars {
			r, at := row(0), 0
			for v := range vars {
				c := d.number(9)
				r.Sum = append(r.Sum, api.Mono{Var: v, Coef: strconv.Itoa(-c)})
				coefs[v] += c
				at += c * (v%5 - 2)
			}
			r.Most = strconv.Itoa(-at)
			rows = append(rows, r)
			least += at
		}
		last := row(least - 1)
		for v, c := range coefs {
			last.Sum = append(last.Sum, api.Mono{Var: v, Coef: strconv.Itoa(c)})
		}
		solve(t, system(t, rows...), rows, 1<<20, api.Sat)
		rows = append(rows, last)
		solve(t, system(t, rows...), rows, 1<<20, api.Unsat)
	}
}

// chain: of so many variables each is less than the next one by 1 at least.
func chain(count int) []api.Row {
	var rows []api.Row
	for i := range count - 1 {
		rows = append(rows, row(-1, i, 1, i+1, -1))
	}
	return rows
}

// P6.2: MaxRows rows over MaxVars variables are decided: a chain, and a ring that can't be closed.
func TestManyRows(t *testing.T) {
	rows := append(chain(api.MaxVars), row(api.MaxVars-1, api.MaxVars-1, 1, 0, -1))
	s := system(t, rows...)
	solve(t, s, rows, 1<<20, api.Sat)
	rows[len(rows)-1].Most = "4094"
	cut(t, s, len(rows)-1)
	add(t, s, rows[len(rows)-1])
	solve(t, s, rows, 1<<20, api.Unsat)
	if len(s.Parts()) != api.MaxRows {
		t.Errorf("%d parts", len(s.Parts()))
	}
}

// P6.2: MaxRows rows of one variable, and their opposites in turn, are decided at once.
func TestManyBounds(t *testing.T) {
	var rows []api.Row
	for i := range api.MaxRows / 2 {
		rows = append(rows, row(-i, 5, -1), row(2*i+2047*3, 5, 3))
	}
	s := system(t, rows...)
	solve(t, s, rows, 1, api.Sat)
	wantValue(t, s, 5, "2047")
	cut(t, s, api.MaxRows-1)
	add(t, s, row(2046, 5, 1))
	solve(t, s, append(rows[:api.MaxRows-1], row(2046, 5, 1)), 1, api.Unsat)
	wantParts(t, s, api.Part{Row: api.MaxRows - 2, Mult: "1"}, api.Part{Row: api.MaxRows - 1, Mult: "1"})
}

// P6.2: what is asked of a system that has been much changed is what a new one would say.
func TestChangedSystems(t *testing.T) {
	d := dice(13)
	for range 100 {
		s := simplex.New()
		var rows []api.Row
		for range 60 {
			if len(rows) == 6 || d.next(3) == 0 {
				n := d.next(len(rows) + 1)
				cut(t, s, n)
				rows = rows[:n:n]
			} else {
				r := row(d.number(9), 0, d.number(9), 1, d.number(9), 2, d.number(9), 3, d.number(9))
				add(t, s, r)
				rows = append(rows, r)
			}
			if d.next(4) != 0 {
				solve(t, s, rows, enough, decided(rows))
			} else {
				s.Solve(d.next(4))
			}
		}
	}
}
