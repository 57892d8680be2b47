package lia_test

import (
	"math"
	"math/big"
	"slices"
	"testing"

	"surety/api"
	"surety/lia"
	"surety/linear"
)

// The chapter's example, with its tree.
func TestExample(t *testing.T) {
	a := solved(t, example(), 100, api.Unsat)
	if want := leafOf(0, "1", 1, "1"); !a.Cert.Leaf || !slices.Equal(a.Cert.Parts, want.Parts) {
		t.Errorf("the tree is %v", a.Cert)
	}
}

// P7.1: rows whose verdict is plain: none, rows without variables, coefficients of 0, the same row twice, fractions alone, rows that are false only once they are made Tight.
func TestPlainVerdicts(t *testing.T) {
	for _, c := range []struct {
		want api.Verdict
		rows []api.Row
	}{
		{api.Sat, nil},
		{api.Sat, []api.Row{row(0)}},
		{api.Sat, []api.Row{row(7), row(0), row(-3, 0, 1)}},
		{api.Unsat, []api.Row{row(-1)}},
		{api.Unsat, []api.Row{row(3, 0, 1), row(-1), row(-2)}},
		{api.Unsat, []api.Row{row(-1, 0, 2, 0, -2), row(1, 0, 1)}},
		{api.Sat, []api.Row{row(-5, 0, 1), row(-5, 0, 1)}},
		{api.Unsat, []api.Row{row(-5, 0, -1), row(-5, 0, -1), row(4, 0, 1), row(4, 0, 1)}},
		{api.Sat, []api.Row{row(9, 0, 1), row(5, 0, 1), row(-5, 0, -1), row(-3, 0, -1)}},
		{api.Unsat, []api.Row{row(9, 0, 1), row(5, 0, 1), row(7, 0, 1), row(-4, 0, -1), row(-6, 0, -1), row(-5, 0, -1)}},
		{api.Unsat, equal(1, 0, 2)},
		{api.Unsat, equal(7, 3, 6, 5, -9)},
		{api.Unsat, equal(-1, 0, 4, 1, 6, 2, -8)},
		{api.Unsat, []api.Row{row(2, 0, 3), row(-1, 0, -3)}},
		{api.Sat, []api.Row{row(3, 0, 3), row(-1, 0, -3)}},
		{api.Sat, equal(1, 0, 2, 1, 3)},
		{api.Sat, equal(-3, 0, 6, 1, 10, 2, -15)},
		{api.Unsat, between()},
	} {
		solved(t, c.rows, enough, c.want)
	}
}

// inWindow: rows of P7.1's last sentence: at most three variables from -3 to 3, and at most 6 rows more with numbers of at most 9.
func (d *dice) inWindow() ([]api.Row, int) {
	vars := 1 + d.next(3)
	size := 1 + d.next(9)
	chance := 1 + d.next(4)
	rows := box(vars, 3)
	for more := d.next(7); more > 0; more-- {
		r := row(d.number(size))
		for v := range vars {
			if d.next(4) < chance {
				r.Sum = append(r.Sum, row(0, v, d.number(size)).Sum...)
			}
		}
		rows = append(rows, r)
		if more > 1 && d.next(3) == 0 {
			rows = append(rows, opposite(r))
			more--
		}
	}
	return rows, vars
}

// P7.1: small rows are never left open, and are as trying all values decides them.
func TestSmallRows(t *testing.T) {
	d := dice(3)
	count, splits := [3]int{}, 0
	for range 6000 {
		rows, vars := d.inWindow()
		a := solved(t, rows, enough, tried(rows, vars, 3))
		count[a.Verdict]++
		if a.Verdict == api.Unsat && !a.Cert.Leaf {
			splits++
		}
	}
	if count[api.Sat] < 1000 || count[api.Unsat] < 1000 || splits < 100 {
		t.Errorf("of %d and %d rows too few are Sat, or Unsat, or by splits: %d", count[api.Sat], count[api.Unsat], splits)
	}
}

// P7.1: small rows that are hardest: equations that rational numbers fulfil, and thin strips.
func TestThinRows(t *testing.T) {
	d := dice(5)
	splits := 0
	for i := range 3000 {
		rows := box(3, 3)
		for range 1 + d.next(3) {
			r := row(d.number(8), 0, d.number(9), 1, d.number(9), 2, d.number(9))
			other := opposite(r)
			if i%2 == 0 {
				r.Most = new(big.Int).Add(whole(r.Most), big.NewInt(1)).String()
			}
			rows = append(rows, r, other)
		}
		if a := solved(t, rows, enough, tried(rows, 3, 3)); a.Verdict == api.Unsat && !a.Cert.Leaf {
			splits++
		}
	}
	if splits < 500 {
		t.Errorf("only %d by splits", splits)
	}
}

// P7.1: what says that a variable is from -3 to 3 may say so in many rows, as many as there may be, and by other numbers.
func TestBoundsAgainAndAgain(t *testing.T) {
	d := dice(7)
	count := [3]int{}
	for range 12 {
		more := equal(d.number(9), 0, 1+d.next(9), 1, -1-d.next(9), 2, 1+d.next(9))
		more = append(more, equal(d.number(9), 0, 1+d.next(9), 1, 1+d.next(9), 2, d.next(9))...)
		rows := slices.Clone(more)
		for len(rows) < api.MaxRows {
			for v := range 3 {
				by := 1 + d.next(3)
				rows = append(rows, row(3*by, v, by), row(3*by, v, -by))
			}
		}
		rows = rows[:api.MaxRows]
		a := solved(t, rows, enough, tried(append(box(3, 3), more...), 3, 3))
		count[a.Verdict]++
	}
	if count[api.Unsat] < 3 {
		t.Errorf("only %d are Unsat", count[api.Unsat])
	}
}

// P7.1: all rows over two variables of two equations with numbers from -2 to 2, between -3 and 3.
func TestAllTinyRows(t *testing.T) {
	var all [][]api.Row
	for i := range 125 {
		all = append(all, equal(i%5-2, 0, i/5%5-2, 1, i/25-2))
	}
	for i, a := range all {
		for j := i % 3; j < len(all); j += 3 {
			rows := slices.Concat(a, box(2, 3), all[j])
			solved(t, rows, enough, tried(rows, 2, 3))
		}
	}
}

// P7.1: larger rows: what is answered is borne out, and where values were chosen first, it isn't Unsat.
func TestLargerRows(t *testing.T) {
	d := dice(11)
	count := [3]int{}
	for range 300 {
		vars := 3 + d.next(8)
		values := make([]int, vars)
		for v := range values {
			values[v] = d.number(50)
		}
		rows := box(vars, 60)
		for range vars {
			r, sum := api.Row{}, 0
			for range 3 {
				v, coef := d.next(vars), d.number(9)
				r.Sum = append(r.Sum, row(0, v, coef).Sum...)
				sum += coef * values[v]
			}
			r.Most = big.NewInt(int64(sum + d.next(3))).String()
			rows = append(rows, r)
		}
		a := solve(t, rows, 3000)
		count[a.Verdict]++
		if a.Verdict == api.Unsat {
			t.Fatalf("%v: Unsat, but %v fulfil them", rows, values)
		}
	}
	if count[api.Sat] < 250 {
		t.Errorf("only %d are Sat", count[api.Sat])
	}
}

// P7.1: rows that no bound keeps together, and that whole numbers don't fulfil: the call ends, with no other verdict than Unknown where no tree shows it.
func TestNothingBoundsThem(t *testing.T) {
	for _, budget := range []int{0, 1, 10, 1000, enough} {
		solved(t, evenOdd(0), budget, api.Unknown)
		// It is given up in good time, too.
		if a := solved(t, wide(0), budget, api.Unknown); a.Steps > 100000 {
			t.Errorf("Unknown took %d steps", a.Steps)
		}
	}
	solved(t, equal(3, 0, 6, 1, -4), enough, api.Unsat)
	// With bounds there are trees.
	a := solved(t, append(evenOdd(0), row(9, 0, 1), row(9, 0, -1)), enough, api.Unsat)
	if a.Cert.Leaf {
		t.Errorf("%v is a leaf", a.Cert)
	}
	// x3 is 0 or 1: of 0 nothing fulfils them, of 1 much does.
	solved(t, append(equal(1, 0, 2, 1, -2, 3, 1), row(1, 3, 1), row(0, 3, -1)), enough, api.Sat)
}

// P7.1: rows that have nothing to do with those that whole numbers don't fulfil, or next to nothing, don't get in the way, and a tree doesn't name them.
func TestRowsApart(t *testing.T) {
	var loose []api.Row
	for i := range 60 {
		loose = append(loose, equal(1+i, 2*i, 5, 2*i+1, -7)...)
		loose = append(loose, row(40, 2*i, 1), row(40, 2*i, -1))
	}
	bad := slices.Concat(equal(1, 500, 2, 501, 4, 502, 1), equal(0, 502, 1), []api.Row{row(5, 500, 1), row(5, 500, -1)})
	solved(t, loose, enough, api.Sat)
	var bridges []api.Row
	for i := range 12 {
		bridges = append(bridges, row(1000, 2*i, 1, 500+i%2, 1))
	}
	for _, rows := range [][]api.Row{slices.Concat(loose, bad), slices.Concat(loose[:48], bridges, bad)} {
		a := solved(t, rows, enough, api.Unsat)
		if used := lia.Uses(a.Cert, len(rows)); len(used) == 0 || used[0] < len(rows)-len(bad) {
			t.Errorf("the tree names the rows %v", used)
		}
	}
	// What is left open of some rows doesn't hide that others are false, be they ahead or behind.
	for _, rows := range [][]api.Row{append(evenOdd(0), bad...), append(slices.Clone(bad), evenOdd(0)...), append(evenOdd(0), row(3, 7, 1), row(-4, 7, -1)), append(wide(0), bad...), append(slices.Clone(bad), wide(0)...)} {
		solved(t, rows, enough, api.Unsat)
	}
	// And what is fulfilled of some doesn't hide that others are left open.
	solved(t, append(loose, evenOdd(700)...), enough, api.Unknown)
	solved(t, append(evenOdd(700), loose...), enough, api.Unknown)
}

// P7.1: what needs many splits for itself doesn't make more of those that others need, though a row binds all of them together.
func TestSplitsDontMultiply(t *testing.T) {
	rows := slices.Concat(equal(1, 500, 35, 501, 70, 502, 1), equal(0, 502, 1), []api.Row{row(9, 500, 1), row(9, 500, -1)})
	bridge := row(100000, 500, 1)
	for i := range 15 {
		v := 3 * i
		rows = append(rows, equal(1, v, 2, v+1, 4, v+2, 3)...)
		rows = append(rows, row(9, v, 1), row(9, v, -1), row(9, v+1, 1), row(9, v+1, -1))
		bridge.Sum = append(bridge.Sum, row(0, v, 1).Sum...)
	}
	solved(t, append(rows, bridge), 5000, api.Unsat)
}

// depthOf: in how many others the deepest part of a tree lies.
func depthOf(b api.Branch) int {
	deepest := 0
	for _, kid := range b.Kids {
		deepest = max(deepest, 1+depthOf(kid))
	}
	return deepest
}

// P7.1: splits lie in one another as deep as may be, and no deeper: then it isn't known.
func TestDeepSplits(t *testing.T) {
	deepest := 0
	count := [3]int{}
	for _, most := range []int{0, 1, 2, 30, 99, 150, 197, 198, 199, 200, 201, 202, 250, 500} {
		rows := read(t, append(evenOdd(5), row(most, 5, 1), row(0, 5, -1))...)
		a, err := lia.Solve(rows, enough)
		if err != api.OK || a.Verdict == api.Unsat && lia.Check(rows, a.Cert) != api.OK || most < 100 && a.Verdict != api.Unsat {
			t.Fatalf("from 0 to %d: verdict %d, error %d", most, a.Verdict, err)
		}
		count[a.Verdict]++
		deepest = max(deepest, depthOf(a.Cert))
	}
	if deepest != api.MaxForm || count[api.Sat] != 0 || count[api.Unknown] == 0 {
		t.Errorf("a tree has %d branches within one another; verdicts: %v", deepest, count)
	}
}

// P7.1: Steps are at most the budget; with just as many as it takes the answer is the same, with fewer it isn't known.
func TestBudgets(t *testing.T) {
	d := dice(13)
	long := 0
	for range 300 {
		rows, _ := d.inWindow()
		a := solve(t, rows, enough)
		long = max(long, a.Steps)
		b := solved(t, rows, a.Steps, a.Verdict)
		if b.Steps != a.Steps || !slices.Equal(texts(a.Values), texts(b.Values)) || told(a) != told(b) {
			t.Fatalf("%v: with just enough steps %s; want %s", rows, told(b), told(a))
		}
		for budget := range min(a.Steps, 20) {
			solved(t, rows, budget, api.Unknown)
		}
		for _, budget := range []int{-1, -enough, math.MinInt} {
			if b := solve(t, rows, budget); b.Steps != 0 || b.Verdict == api.Unsat {
				t.Fatalf("%v: with a budget of %d verdict %d in %d steps", rows, budget, b.Verdict, b.Steps)
			}
		}
		solved(t, rows, math.MaxInt, a.Verdict)
	}
	if long < 10 {
		t.Errorf("none took more than %d steps", long)
	}
	if a := solved(t, between(), enough, api.Unsat); a.Steps < 3 {
		t.Errorf("a split and two leaves in %d steps", a.Steps)
	}
	for _, budget := range []int{0, -1, math.MinInt, 1} {
		solved(t, between(), budget, api.Unknown)
	}
}

// P7.1: of each variable by its number: those that no row names, or with the coefficient 0, are 0, or aren't there.
func TestValues(t *testing.T) {
	rows := slices.Concat(equal(7, 3, 1), equal(-2, 5, 1), []api.Row{row(4, 1, 0, 8, 0), row(3, 6, 2, 6, -2)})
	a := solved(t, rows, enough, api.Sat)
	for v, x := range a.Values {
		want := map[int]string{3: "7", 5: "-2"}[v]
		if want == "" {
			want = "0"
		}
		if x.Text() != want {
			t.Errorf("variable %d is %s; want %s", v, x.Text(), want)
		}
	}
	if len(a.Values) < 6 {
		t.Errorf("the values are %v", texts(a.Values))
	}
	last := solved(t, equal(9, api.MaxVars-1, 3), enough, api.Sat)
	if len(last.Values) != api.MaxVars || last.Values[api.MaxVars-1].Text() != "3" {
		t.Errorf("of the last variable there are %d values", len(last.Values))
	}
	for _, rows := range [][]api.Row{nil, {row(3)}} {
		for _, x := range solved(t, rows, enough, api.Sat).Values {
			if x.Sign() != 0 {
				t.Errorf("%v: a variable is %s", rows, x.Text())
			}
		}
	}
}

// P7.1: numbers of up to MaxBits bits; where some become larger on the way it may be Unknown, but nothing false is told.
func TestLargeNumbers(t *testing.T) {
	top := power(api.MaxBits, -1)
	one := big.NewInt(1)
	for _, c := range []struct {
		want api.Verdict
		rows []api.Row
	}{
		{api.Sat, []api.Row{bigRow(top, 0, one), bigRow(minus(top), 0, minus(one))}},
		{api.Unsat, []api.Row{bigRow(power(api.MaxBits, -2), 0, one), bigRow(minus(top), 0, minus(one))}},
		{api.Sat, []api.Row{bigRow(top, 0, top), bigRow(minus(top), 0, minus(top))}},
		{api.Unsat, []api.Row{bigRow(power(1023, 1), 0, power(1023, 0)), bigRow(minus(power(1023, 1)), 0, minus(power(1023, 0)))}},
		{api.Unsat, []api.Row{bigRow(power(1000, -1), 0, big.NewInt(2), 1, big.NewInt(4), 2, one), bigRow(minus(power(1000, -1)), 0, big.NewInt(-2), 1, big.NewInt(-4), 2, minus(one)), row(0, 2, 1), row(0, 2, -1), row(3, 1, 1), row(3, 1, -1)}},
	} {
		solved(t, c.rows, enough, c.want)
	}
	d := dice(17)
	count := [3]int{}
	for range 150 {
		count[solve(t, d.bigRows(), 2000).Verdict]++
	}
	for v, n := range count {
		if n == 0 {
			t.Errorf("none has the verdict %d", v)
		}
	}
}

// bigRows: a few rows over a few variables, with numbers of any size.
func (d *dice) bigRows() []api.Row {
	number := func() *big.Int {
		n := big.NewInt(int64(d.next(10)))
		if d.next(3) == 0 {
			n = power(uint([]int{30, 64, 200, 500, 1020}[d.next(5)]), int64(d.number(9)))
		}
		if d.next(2) == 0 {
			return minus(n)
		}
		return n
	}
	var out []api.Row
	for range 2 + d.next(5) {
		r := bigRow(number(), d.next(3), number(), 3+d.next(2), number(), 5, number())
		out = append(out, r)
		if d.next(3) == 0 {
			out = append(out, opposite(r))
		}
	}
	return out
}

// P7.1: Sat is told only where Holds bears it out: of a row that was made Tight the number may fit, and its sum not.
func TestSumsTooLarge(t *testing.T) {
	rows := []api.Row{bigRow(minus(power(api.MaxBits, -1)), 0, minus(power(1000, 0)))}
	a := solve(t, rows, enough)
	if ok, err := read(t, rows...)[0].Holds(a.Values); a.Verdict == api.Sat && (!ok || err != api.OK) {
		t.Errorf("Sat, but the row doesn't hold at %v: error %d", texts(a.Values), err)
	}
	if a.Verdict == api.Unsat {
		t.Error("Unsat")
	}
}

func wantRefused(t *testing.T, what string, rows []linear.Row, want api.Errno) {
	t.Helper()
	for _, budget := range []int{enough, 0} {
		a, err := lia.Solve(rows, budget)
		if err != want || told(a) != told(lia.Answer{}) {
			t.Errorf("%s: %s, error %d; want nothing, error %d", what, told(a), err, want)
		}
	}
}

// P7.1: simplex.Add's error of the first row that has one: a rest, too many rows.
func TestRowsThatAreNone(t *testing.T) {
	good := read(t, row(3, 0, 1))[0]
	bad := read(t, row(-1))[0]
	for _, coef := range []int{0, 1, 2, 6} {
		wantRefused(t, "a rest", []linear.Row{resty(t, 4, 1, coef)}, api.ErrRow)
		wantRefused(t, "a rest behind others", []linear.Row{good, bad, resty(t, -6, 1, coef), good}, api.ErrRow)
	}
	full := slices.Repeat([]linear.Row{good}, api.MaxRows)
	if a, err := lia.Solve(full, 10); err != api.OK || a.Verdict != api.Sat {
		t.Errorf("MaxRows rows: verdict %d, error %d", a.Verdict, err)
	}
	// As many unlike rows as there may be, which need a split.
	unlike := between()
	for len(unlike) < api.MaxRows {
		unlike = append(unlike, row(9999, 0, 1, 1, len(unlike)))
	}
	solve(t, unlike, 1000)
	wantRefused(t, "a row too many", append(slices.Clone(full), good), api.ErrLong)
	wantRefused(t, "rows too many that are false", append(slices.Clone(full), bad, bad), api.ErrLong)
	wantRefused(t, "the row too many has a rest", append(slices.Clone(full), resty(t, 1, 0, 1)), api.ErrLong)
	rest := append(slices.Clone(full), good)
	rest[api.MaxRows-1] = resty(t, 1, 0, 1)
	wantRefused(t, "the last row that may be has a rest, and there is one more", rest, api.ErrRow)
}
