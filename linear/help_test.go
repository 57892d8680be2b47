package linear_test

import (
	"maps"
	"math/big"
	"slices"
	"strconv"
	"strings"
	"testing"

	"surety/api"
	"surety/arith"
	"surety/linear"
)

// The tests hold the package against sums of math/big's numbers, and know of it only what its exported calls tell.

// sum is what a term should be: coefficients by their variables, none of them 0, and a rest.
type sum struct {
	coefs map[int]*big.Int
	rest  *big.Int
}

// of: a sum of a rest, and of variables and coefficients in turn.
func of(rest int64, list ...int64) sum {
	s := number(big.NewInt(rest))
	for i := 0; i < len(list); i += 2 {
		s = s.with(int(list[i]), big.NewInt(list[i+1]))
	}
	return s
}

func number(n *big.Int) sum { return sum{coefs: map[int]*big.Int{}, rest: n} }

// with: v's coefficient is c; 0 takes v away.
func (s sum) with(v int, c *big.Int) sum {
	coefs := maps.Clone(s.coefs)
	delete(coefs, v)
	if c.Sign() != 0 {
		coefs[v] = c
	}
	return sum{coefs: coefs, rest: s.rest}
}

func (s sum) coef(v int) *big.Int {
	if c, ok := s.coefs[v]; ok {
		return c
	}
	return new(big.Int)
}

func (s sum) vars() []int { return slices.Sorted(maps.Keys(s.coefs)) }

func (s sum) text() string {
	var list []string
	for _, v := range s.vars() {
		list = append(list, s.coefs[v].String()+"*x"+strconv.Itoa(v))
	}
	if len(list) == 0 || s.rest.Sign() != 0 {
		list = append(list, s.rest.String())
	}
	return strings.Join(list, " + ")
}

func (s sum) fits() bool {
	for _, c := range s.coefs {
		if !fits(c) {
			return false
		}
	}
	return fits(s.rest)
}

func (s sum) plus(o sum) sum {
	out := sum{coefs: s.coefs, rest: new(big.Int).Add(s.rest, o.rest)}
	for v, c := range o.coefs {
		out = out.with(v, new(big.Int).Add(out.coef(v), c))
	}
	return out
}

func (s sum) times(n *big.Int) sum {
	out := number(new(big.Int).Mul(s.rest, n))
	for v, c := range s.coefs {
		out = out.with(v, new(big.Int).Mul(c, n))
	}
	return out
}

func (s sum) neg() sum { return s.times(big.NewInt(-1)) }

// at: the value, and whether no product or sum on the way has too many bits.
func (s sum) at(values []*big.Int) (*big.Int, bool) {
	total, ok := s.rest, true
	for _, v := range s.vars() {
		if v < len(values) {
			product := new(big.Int).Mul(s.coefs[v], values[v])
			total = new(big.Int).Add(total, product)
			ok = ok && fits(product) && fits(total)
		}
	}
	return total, ok
}

func fits(n *big.Int) bool { return n.BitLen() <= api.MaxBits }

// power: 2^k + more.
func power(k uint, more int64) *big.Int {
	n := new(big.Int).Lsh(big.NewInt(1), k)
	return n.Add(n, big.NewInt(more))
}

func minus(n *big.Int) *big.Int { return new(big.Int).Neg(n) }

// most: the greatest number.
func most() *big.Int { return power(api.MaxBits, -1) }

func whole(t *testing.T, n *big.Int) arith.Int {
	t.Helper()
	x, err := arith.Parse(n.String())
	if err != api.OK {
		t.Fatalf("%s: error %d", n, err)
	}
	return x
}

func wholes(t *testing.T, list []*big.Int) []arith.Int {
	t.Helper()
	var out []arith.Int
	for _, n := range list {
		out = append(out, whole(t, n))
	}
	return out
}

func bigs(list ...int64) []*big.Int {
	var out []*big.Int
	for _, n := range list {
		out = append(out, big.NewInt(n))
	}
	return out
}

// variable: one that must be there.
func variable(t *testing.T, v int) linear.Term {
	t.Helper()
	x, err := linear.Var(v)
	if err != api.OK {
		t.Fatalf("Var(%d): error %d", v, err)
	}
	return x
}

// term: s, made by Num, Var, Scale and Add.
func term(t *testing.T, s sum) linear.Term {
	t.Helper()
	out := linear.Num(whole(t, s.rest))
	for _, v := range s.vars() {
		scaled, err := linear.Scale(variable(t, v), whole(t, s.coefs[v]))
		if err != api.OK {
			t.Fatalf("%s: Scale: error %d", s.text(), err)
		}
		out, err = linear.Add(out, scaled)
		if err != api.OK {
			t.Fatalf("%s: Add: error %d", s.text(), err)
		}
	}
	return out
}

func terms(t *testing.T, list []sum) []linear.Term {
	t.Helper()
	var out []linear.Term
	for _, s := range list {
		out = append(out, term(t, s))
	}
	return out
}

// same: does got tell of itself what s is, in all its calls?
func same(s sum, got linear.Term) bool {
	vars := s.vars()
	for _, v := range append(slices.Clone(vars), -1, 0, 1, 2, 3, 4, api.MaxVars-1, api.MaxVars) {
		if got.Coef(v).Text() != s.coef(v).String() {
			return false
		}
	}
	return slices.Equal(got.Vars(), vars) && got.Rest().Text() == s.rest.String() &&
		got.IsNum() == (len(vars) == 0) && got.Text() == s.text()
}

// want: got is s, or, if a number in s has too many bits, 0 beside ErrBig.
func want(t *testing.T, what string, s sum, got linear.Term, err api.Errno) {
	t.Helper()
	if !s.fits() {
		wantError(t, what, api.ErrBig, got, err)
		return
	}
	if err != api.OK || !same(s, got) {
		t.Errorf("%s: %s, error %d; want %s", what, got.Text(), err, s.text())
	}
}

// wantError: that error, and the zero Term beside it.
func wantError(t *testing.T, what string, code api.Errno, got linear.Term, err api.Errno) {
	t.Helper()
	if err != code || !same(of(0), got) {
		t.Errorf("%s: %s, error %d; want 0, error %d", what, got.Text(), err, code)
	}
}

// dice is a row of numbers that is always the same.
type dice uint64

func (d *dice) next(below int) int {
	*d = *d*6364136223846793005 + 1442695040888963407
	return int(uint64(*d)>>33) % below
}

// edgeNumbers: those beside which words, products or all numbers end, and small ones.
func edgeNumbers() []*big.Int {
	return []*big.Int{big.NewInt(1), big.NewInt(2), big.NewInt(6), power(64, 0), power(512, -1), power(512, 0), power(1023, 0), power(1024, -2), most()}
}

// number: a small one, or, once in a while, an edge; of both signs, or 0.
func (d *dice) number() *big.Int {
	n := big.NewInt(int64(d.next(10)))
	if d.next(8) == 0 {
		list := edgeNumbers()
		n = list[d.next(len(list))]
	}
	if d.next(2) == 0 {
		return minus(n)
	}
	return n
}

// sum: over a few variables, those at the ends among them.
func (d *dice) sum() sum {
	s := number(d.number())
	vars := []int{0, 1, 2, 3, 4, api.MaxVars - 2, api.MaxVars - 1}
	for range d.next(6) {
		s = s.with(vars[d.next(len(vars))], d.number())
	}
	return s
}

// sums: the edges by themselves, and mixed ones.
func sums(seed uint64, count int) []sum {
	list := []sum{of(0), of(0, 0, 1), of(0, api.MaxVars-1, -1), of(5, 0, 2, 1, -4)}
	for _, n := range edgeNumbers() {
		list = append(list, number(n), number(minus(n)), of(0).with(0, n), of(0).with(0, minus(n)), of(-3, 0, 7).with(2, n))
	}
	d := dice(seed)
	for range count {
		list = append(list, d.sum())
	}
	return list
}

// values: for as many variables as d says.
func (d *dice) values() []*big.Int {
	var list []*big.Int
	for range d.next(7) {
		list = append(list, d.number())
	}
	return list
}
