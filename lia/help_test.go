package lia_test

import (
	"math/big"
	"slices"
	"strconv"
	"testing"

	"surety/api"
	"surety/arith"
	"surety/lia"
	"surety/linear"
)

// The tests hold the package against trying all values, and values and trees against math/big's numbers; they know of it only what its exported calls tell.

// enough: the budget with which small rows are never left open.
const enough = 5000000

// dice is a row of numbers that is always the same.
type dice uint64

func (d *dice) next(below int) int {
	*d = *d*6364136223846793005 + 1442695040888963407
	return int(uint64(*d)>>33) % below
}

// number: from 0 less most to most.
func (d *dice) number(most int) int { return d.next(2*most+1) - most }

// row: most, and variables and coefficients in turn.
func row(most int, list ...int) api.Row {
	r := api.Row{Most: strconv.Itoa(most)}
	for i := 0; i < len(list); i += 2 {
		r.Sum = append(r.Sum, api.Mono{Var: list[i], Coef: strconv.Itoa(list[i+1])})
	}
	return r
}

// bigRow is row with numbers of any size.
func bigRow(most *big.Int, list ...any) api.Row {
	r := api.Row{Most: most.String()}
	for i := 0; i < len(list); i += 2 {
		r.Sum = append(r.Sum, api.Mono{Var: list[i].(int), Coef: list[i+1].(*big.Int).String()})
	}
	return r
}

// power: 2^k + more.
func power(k uint, more int64) *big.Int {
	n := new(big.Int).Lsh(big.NewInt(1), k)
	return n.Add(n, big.NewInt(more))
}

func minus(n *big.Int) *big.Int { return new(big.Int).Neg(n) }

// opposite: a row that says that the sum is at least what the row has as Most.
func opposite(r api.Row) api.Row {
	out := api.Row{Most: minus(whole(r.Most)).String()}
	for _, m := range r.Sum {
		out.Sum = append(out.Sum, api.Mono{Var: m.Var, Coef: minus(whole(m.Coef)).String()})
	}
	return out
}

// equal: two rows, which say that the sum is just most.
func equal(most int, list ...int) []api.Row {
	r := row(most, list...)
	return []api.Row{r, opposite(r)}
}

// box: each of so many variables is from 0 less size to size.
func box(vars, size int) []api.Row {
	var out []api.Row
	for v := range vars {
		out = append(out, row(size, v, 1), row(size, v, -1))
	}
	return out
}

func whole(s string) *big.Int {
	n, ok := new(big.Int).SetString(s, 10)
	if !ok {
		panic("no number: " + s)
	}
	return n
}

func rat(s string) *big.Rat {
	x, ok := new(big.Rat).SetString(s)
	if !ok {
		panic("no number: " + s)
	}
	return x
}

func read(t testing.TB, list ...api.Row) []linear.Row {
	t.Helper()
	var out []linear.Row
	for _, r := range list {
		x, err := linear.Read(r)
		if err != api.OK {
			t.Fatalf("%v: error %d", r, err)
		}
		out = append(out, x)
	}
	return out
}

// resty: a row put together by hand whose sum has a rest.
func resty(t testing.TB, rest, v, coef int) linear.Row {
	t.Helper()
	x, err := linear.Var(v)
	if err != api.OK {
		t.Fatal(err)
	}
	x, err = linear.Scale(x, arith.From(coef))
	if err != api.OK {
		t.Fatal(err)
	}
	x, err = linear.Add(x, linear.Num(arith.From(rest)))
	if err != api.OK {
		t.Fatal(err)
	}
	return linear.Row{Sum: x}
}

// solve: an answer that what it has bears out, within the budget.
func solve(t testing.TB, rows []api.Row, budget int) lia.Answer {
	t.Helper()
	a, err := lia.Solve(read(t, rows...), budget)
	if err != api.OK {
		t.Fatalf("%v: error %d", rows, err)
	}
	if a.Steps < 0 || a.Steps > max(budget, 0) {
		t.Fatalf("%v: Solve(%d) took %d steps", rows, budget, a.Steps)
	}
	wantBorneOut(t, rows, a)
	return a
}

// solved: likewise, with that verdict.
func solved(t testing.TB, rows []api.Row, budget int, want api.Verdict) lia.Answer {
	t.Helper()
	a := solve(t, rows, budget)
	if a.Verdict != want {
		t.Fatalf("%v: Solve(%d) is %d; want %d", rows, budget, a.Verdict, want)
	}
	return a
}

// wantBorneOut: the values fulfil the rows, the tree shows that nothing does; what the verdict isn't has nothing.
func wantBorneOut(t testing.TB, rows []api.Row, a lia.Answer) {
	t.Helper()
	if a.Verdict == api.Sat {
		for _, r := range rows {
			if !holds(r, a.Values) {
				t.Fatalf("%v: %v doesn't hold at %v", rows, r, texts(a.Values))
			}
		}
	} else if len(a.Values) != 0 {
		t.Fatalf("%v: verdict %d, with values %v", rows, a.Verdict, texts(a.Values))
	}
	if a.Verdict == api.Unsat {
		if err := lia.Check(read(t, rows...), a.Cert); err != api.OK || !shown(tight(rows), a.Cert, 0) {
			t.Fatalf("%v: %v shows nothing: error %d", rows, a.Cert, err)
		}
	} else if b := a.Cert; b.Leaf || len(b.Parts) != 0 || b.Var != 0 || b.Split != "" || len(b.Kids) != 0 {
		t.Fatalf("%v: verdict %d, with the tree %v", rows, a.Verdict, b)
	}
}

func texts(values []arith.Int) []string {
	var out []string
	for _, n := range values {
		out = append(out, n.Text())
	}
	return out
}

// holds: does a row, at values, with numbers of any size?
func holds(r api.Row, values []arith.Int) bool {
	sum := new(big.Int)
	for _, m := range r.Sum {
		if m.Var < len(values) {
			product := whole(values[m.Var].Text())
			sum.Add(sum, product.Mul(product, whole(m.Coef)))
		}
	}
	return sum.Cmp(whole(r.Most)) <= 0
}

// tight: rows divided by what divides all their coefficients, their numbers rounded down; each variable stands once in them.
func tight(rows []api.Row) []api.Row {
	var out []api.Row
	for _, r := range rows {
		coefs := map[int]*big.Int{}
		for _, m := range r.Sum {
			if coefs[m.Var] == nil {
				coefs[m.Var] = new(big.Int)
			}
			coefs[m.Var].Add(coefs[m.Var], whole(m.Coef))
		}
		g := new(big.Int)
		for _, c := range coefs {
			g.GCD(nil, nil, g, new(big.Int).Abs(c))
		}
		if g.Sign() == 0 {
			g.SetInt64(1)
		}
		// Euclid's way of dividing rounds down, as g is above 0.
		next := api.Row{Most: new(big.Int).Div(whole(r.Most), g).String()}
		for v, c := range coefs {
			next.Sum = append(next.Sum, api.Mono{Var: v, Coef: new(big.Int).Div(c, g).String()})
		}
		out = append(out, next)
	}
	return out
}

// shown: does a tree show that no whole numbers fulfil rows, by the chapter's words, with numbers of any size?
func shown(rows []api.Row, b api.Branch, depth int) bool {
	if depth > api.MaxForm {
		return false
	}
	if b.Leaf {
		return refutes(rows, b.Parts)
	}
	at := whole(b.Split)
	more := new(big.Int).Add(at, big.NewInt(1))
	one := big.NewInt(1)
	first := append(slices.Clone(rows), bigRow(at, b.Var, one))
	second := append(slices.Clone(rows), bigRow(minus(more), b.Var, minus(one)))
	return len(b.Kids) == 2 && shown(first, b.Kids[0], depth+1) && shown(second, b.Kids[1], depth+1)
}

// refutes: do the rows, taken by their factors and added, say that 0 is at most less than 0?
func refutes(rows []api.Row, parts []api.Part) bool {
	most := new(big.Rat)
	coefs := map[int]*big.Rat{}
	for i, p := range parts {
		if p.Row < 0 || p.Row >= len(rows) || i > 0 && p.Row <= parts[i-1].Row || rat(p.Mult).Sign() <= 0 {
			return false
		}
		most.Add(most, new(big.Rat).Mul(rat(rows[p.Row].Most), rat(p.Mult)))
		for _, m := range rows[p.Row].Sum {
			if coefs[m.Var] == nil {
				coefs[m.Var] = new(big.Rat)
			}
			coefs[m.Var].Add(coefs[m.Var], new(big.Rat).Mul(rat(m.Coef), rat(p.Mult)))
		}
	}
	for _, c := range coefs {
		if c.Sign() != 0 {
			return false
		}
	}
	return most.Sign() < 0
}

// plain is a row of small numbers: the coefficients of the variables 0, 1, .., and behind them Most.
type plain []int

// plainRows: of rows over so many variables.
func plainRows(rows []api.Row, vars int) []plain {
	var out []plain
	for _, r := range rows {
		p := make(plain, vars+1)
		for _, m := range r.Sum {
			p[m.Var] += int(whole(m.Coef).Int64())
		}
		p[vars] = int(whole(r.Most).Int64())
		out = append(out, p)
	}
	return out
}

// tried: are there whole numbers from 0 less size to size, of so many variables, that fulfil rows? All of them are tried.
func tried(rows []api.Row, vars, size int) api.Verdict {
	list := plainRows(rows, vars)
	values := slices.Repeat([]int{-size}, vars)
	for {
		if !slices.ContainsFunc(list, func(p plain) bool { return !p.holds(values) }) {
			return api.Sat
		}
		at := 0
		for at < vars && values[at] == size {
			values[at] = -size
			at++
		}
		if at == vars {
			return api.Unsat
		}
		values[at]++
	}
}

func (p plain) holds(values []int) bool {
	sum := 0
	for v, x := range values {
		sum += p[v] * x
	}
	return sum <= p[len(values)]
}

// example: the chapter's.
func example() []api.Row { return []api.Row{row(1, 0, 2, 1, -2), row(-1, 0, -2, 1, 2)} }

// between: 2 x0 + 4 x1 + x2 is 1, and x2 is 0: rational numbers fulfil that, and within bounds splits show that whole ones don't.
func between() []api.Row {
	return slices.Concat(box(2, 4), equal(1, 0, 2, 1, 4, 2, 1), equal(0, 2, 1))
}

// evenOdd: of three variables from v on the first is twice the second, and 1 more than twice the third; nothing bounds them, and no tree shows that there are no such numbers.
func evenOdd(v int) []api.Row { return slices.Concat(equal(0, v, 1, v+1, -2), equal(1, v, 1, v+2, -2)) }

// wide: likewise, of four variables; as two of them are free, more is left open.
func wide(v int) []api.Row {
	return slices.Concat(equal(1, v, 6, v+1, -10, v+2, 1), equal(0, v+2, 1, v+3, -14))
}

// leafOf: rows by their factors, in turn.
func leafOf(list ...any) api.Branch {
	b := api.Branch{Leaf: true}
	for i := 0; i < len(list); i += 2 {
		b.Parts = append(b.Parts, api.Part{Row: list[i].(int), Mult: list[i+1].(string)})
	}
	return b
}

func splitOf(v int, at string, kids ...api.Branch) api.Branch {
	return api.Branch{Var: v, Split: at, Kids: kids}
}

func wantCheck(t testing.TB, what string, rows []linear.Row, b api.Branch, want api.Errno) {
	t.Helper()
	if got := lia.Check(rows, b); got != want {
		t.Errorf("%s: Check: error %d; want %d", what, got, want)
	}
}
