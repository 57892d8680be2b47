package linear_test

import (
	"math"
	"math/big"
	"slices"
	"strconv"
	"strings"
	"testing"

	"surety/api"
	"surety/arith"
	"surety/linear"
)

// plain: a row as plain data, of variables and coefficients in turn.
func plain(mostText string, list ...string) api.Row {
	r := api.Row{Most: mostText}
	for i := 0; i < len(list); i += 2 {
		v, err := strconv.Atoi(list[i])
		if err != nil {
			panic(err)
		}
		r.Sum = append(r.Sum, api.Mono{Var: v, Coef: list[i+1]})
	}
	return r
}

// read: the row of plain data that must be one.
func read(t *testing.T, r api.Row) linear.Row {
	t.Helper()
	out, err := linear.Read(r)
	if err != api.OK {
		t.Fatalf("Read of %v: error %d", r, err)
	}
	return out
}

// rowOf: s, without its rest, is at most n.
func rowOf(t *testing.T, s sum, n *big.Int) linear.Row {
	t.Helper()
	return linear.Row{Sum: term(t, sum{coefs: s.coefs, rest: new(big.Int)}), Most: whole(t, n)}
}

func text(r linear.Row) string { return r.Sum.Text() + " <= " + r.Most.Text() }

// wantRow: got says that s, whose rest is 0, is at most n.
func wantRow(t *testing.T, what string, s sum, n *big.Int, got linear.Row, err api.Errno) {
	t.Helper()
	if err != api.OK || !same(s, got.Sum) || got.Most.Text() != n.String() {
		t.Errorf("%s: %s, error %d; want %s <= %s", what, text(got), err, s.text(), n)
	}
}

// wantNoRow: that error, and the zero Row beside it.
func wantNoRow(t *testing.T, what string, code api.Errno, got linear.Row, err api.Errno) {
	t.Helper()
	if err != code || !same(of(0), got.Sum) || got.Most.Text() != "0" {
		t.Errorf("%s: %s, error %d; want the zero Row, error %d", what, text(got), err, code)
	}
}

// The zero Row says that 0 is at most 0.
func TestZeroRow(t *testing.T) {
	var zero linear.Row
	if ok, err := zero.Holds(nil); !ok || err != api.OK {
		t.Errorf("0 <= 0: %v, error %d", ok, err)
	}
	wantRow(t, "tight", of(0), new(big.Int), zero.Tight(), api.OK)
	not, err := zero.Not()
	wantRow(t, "its opposite", of(0), big.NewInt(-1), not, err)
	if got := zero.Plain(); len(got.Sum) != 0 || got.Most != "0" {
		t.Errorf("as plain data: %v", got)
	}
}

// P3.4: Read, in any order, variables told several times, and 0 told.
func TestRead(t *testing.T) {
	top, end := most().String(), strconv.Itoa(api.MaxVars-1)
	for _, c := range []struct {
		r api.Row
		s sum
		n *big.Int
	}{
		{plain("3", "0", "2", "1", "-4"), of(0, 0, 2, 1, -4), big.NewInt(3)},
		{plain("-3", "9", "2", end, "1", "0", "-4"), of(0, 0, -4, 9, 2, api.MaxVars-1, 1), big.NewInt(-3)},
		{plain("0"), of(0), big.NewInt(0)},
		{plain(top), of(0), most()},
		{plain("-" + top), of(0), minus(most())},
		{plain("1", "4", "0"), of(0), big.NewInt(1)},
		{plain("1", "4", "0", "3", "0", "4", "2"), of(0, 4, 2), big.NewInt(1)},
		{plain("1", "2", "5", "1", "7", "2", "-3"), of(0, 1, 7, 2, 2), big.NewInt(1)},
		{plain("1", "2", "5", "1", "7", "2", "-5"), of(0, 1, 7), big.NewInt(1)},
		{plain("1", "2", "5", "2", "-5"), of(0), big.NewInt(1)},
		{plain("1", "2", "5", "2", "-5", "2", "8"), of(0, 2, 8), big.NewInt(1)},
		{plain("1", "0", top, end, "-"+top), of(0).with(0, most()).with(api.MaxVars-1, minus(most())), big.NewInt(1)},
		{plain("1", "0", top, "0", "-"+top, "0", "-"+top), of(0).with(0, minus(most())), big.NewInt(1)},
		{plain("1", "0", power(1024, -2).String(), "0", "1"), of(0).with(0, most()), big.NewInt(1)},
	} {
		got, err := linear.Read(c.r)
		wantRow(t, "Read", c.s, c.n, got, err)
	}
}

// P3.4: as many parts as there are variables are read, and one more isn't, be they right or wrong.
func TestReadLong(t *testing.T) {
	long := api.Row{Most: "7"}
	for range api.MaxVars {
		long.Sum = append(long.Sum, api.Mono{Var: 5, Coef: "-2"})
	}
	got, err := linear.Read(long)
	wantRow(t, "just as many", of(0, 5, -2*api.MaxVars), big.NewInt(7), got, err)
	long.Sum = append(long.Sum, api.Mono{Var: 5, Coef: "-2"})
	got, err = linear.Read(long)
	wantNoRow(t, "one more", api.ErrLong, got, err)
	long.Most, long.Sum[0].Var, long.Sum[1].Coef = "x", -1, "y"
	got, err = linear.Read(long)
	wantNoRow(t, "one more, and other faults", api.ErrLong, got, err)
	long.Sum = append(long.Sum, long.Sum...)
	got, err = linear.Read(long)
	wantNoRow(t, "many more", api.ErrLong, got, err)
}

// P3.4: no variables, and texts that are no numbers, or of too many bits.
func TestReadWrong(t *testing.T) {
	big := power(1024, 0).String()
	for _, v := range []int{math.MinInt, -2, -1, api.MaxVars, api.MaxVars + 1, math.MaxInt} {
		got, err := linear.Read(plain("1", "0", "1", strconv.Itoa(v), "1"))
		wantNoRow(t, "variable "+strconv.Itoa(v), api.ErrVar, got, err)
	}
	for _, s := range []string{"", "-", "-0", "+1", "007", "1x", " 1", "1 ", "1.0", "1/2", "x", "--1", "\x00"} {
		got, err := linear.Read(plain(s, "0", "1"))
		wantNoRow(t, "at most "+s, api.ErrDigit, got, err)
		got, err = linear.Read(plain("1", "0", "1", "1", s))
		wantNoRow(t, "a coefficient "+s, api.ErrDigit, got, err)
	}
	for _, s := range []string{big, "-" + big, strings.Repeat("9", 5000)} {
		got, err := linear.Read(plain(s, "0", "1"))
		wantNoRow(t, "at most too much", api.ErrBig, got, err)
		got, err = linear.Read(plain("1", "0", "1", "1", s))
		wantNoRow(t, "a coefficient that is too large", api.ErrBig, got, err)
	}
}

// P3.4: of several faults the first counts: Most, then part by part, of each the variable, its coefficient, what they come to.
func TestReadFirstFault(t *testing.T) {
	big, top := power(1024, 0).String(), most().String()
	for _, c := range []struct {
		name string
		r    api.Row
		code api.Errno
	}{
		{"Most ahead of a variable", plain("x", "-1", "1"), api.ErrDigit},
		{"Most ahead of a coefficient", plain(big, "0", "x"), api.ErrBig},
		{"Most ahead of what they come to", plain("-0", "0", top, "0", "1"), api.ErrDigit},
		{"a variable ahead of its coefficient", plain("1", "-1", "x"), api.ErrVar},
		{"a variable ahead of its coefficient's size", plain("1", "4096", big), api.ErrVar},
		{"an earlier coefficient", plain("1", "0", "x", "-1", "1"), api.ErrDigit},
		{"an earlier coefficient's size", plain("1", "0", big, "1", "x"), api.ErrBig},
		{"an earlier variable", plain("1", "-1", "1", "0", "x"), api.ErrVar},
		{"a coefficient ahead of one that is too large", plain("1", "0", "x", "1", big), api.ErrDigit},
		{"what they come to ahead of a later coefficient", plain("1", "0", top, "0", "1", "1", "x"), api.ErrBig},
		{"what they come to ahead of a later variable", plain("1", "0", top, "0", "1", "-1", "1"), api.ErrBig},
		{"a coefficient ahead of what later ones come to", plain("1", "0", top, "1", "x", "0", "1"), api.ErrDigit},
		{"a variable ahead of what later ones come to", plain("1", "0", top, "-1", "1", "0", "1"), api.ErrVar},
	} {
		got, err := linear.Read(c.r)
		wantNoRow(t, c.name, c.code, got, err)
	}
}

// P3.4: coefficients of one variable that come to too much on the way, even where a later one would make it good.
func TestReadTooMuch(t *testing.T) {
	top := most().String()
	for _, r := range []api.Row{
		plain("1", "0", top, "0", "1"),
		plain("1", "0", top, "0", "1", "0", "-1"),
		plain("1", "0", "-"+top, "1", "3", "0", "-1", "0", "1"),
		plain("1", "7", power(1023, 0).String(), "7", power(1023, 0).String(), "7", "-5"),
	} {
		got, err := linear.Read(r)
		wantNoRow(t, "too much on the way", api.ErrBig, got, err)
	}
	got, err := linear.Read(plain("1", "0", "1", "0", "-1", "0", top))
	wantRow(t, "in another order", of(0).with(0, most()), big.NewInt(1), got, err)
	got, err = linear.Read(plain("1", "0", top, "1", top, "2", "1"))
	wantRow(t, "of different variables", of(0, 2, 1).with(0, most()).with(1, most()), big.NewInt(1), got, err)
}

// P3.4: Plain: each variable once, rising; and Read of it is the row again.
func TestPlain(t *testing.T) {
	got := read(t, plain("-8", "9", "2", "4095", "1", "0", "-4", "9", "3", "5", "1", "5", "-1")).Plain()
	if !slices.Equal(got.Sum, []api.Mono{{Var: 0, Coef: "-4"}, {Var: 9, Coef: "5"}, {Var: 4095, Coef: "1"}}) || got.Most != "-8" {
		t.Errorf("Plain: %v", got)
	}
	d := dice(13)
	for _, s := range sums(14, 200) {
		r := rowOf(t, s, d.number())
		p := r.Plain()
		var vars []int
		for _, m := range p.Sum {
			vars = append(vars, m.Var)
			if m.Coef != s.coef(m.Var).String() {
				t.Errorf("%s: the coefficient of %d: %s", text(r), m.Var, m.Coef)
			}
		}
		again := read(t, p)
		if !slices.Equal(vars, s.vars()) || p.Most != r.Most.Text() || !linear.Same(again.Sum, r.Sum) || arith.Cmp(again.Most, r.Most) != 0 {
			t.Errorf("%s as plain data: %v", text(r), p)
		}
	}
}

// P3.4: AtMost: the rest goes to the other side.
func TestAtMost(t *testing.T) {
	for _, s := range append(sums(15, 200), number(most()).with(0, most()), number(minus(most()))) {
		wantRow(t, s.text(), sum{coefs: s.coefs, rest: new(big.Int)}, minus(s.rest), linear.AtMost(term(t, s)), api.OK)
	}
}

// P3.5: Tight: Most is rounded down, on both sides of 0.
func TestTight(t *testing.T) {
	top := most()
	for _, c := range []struct {
		s     sum
		n     *big.Int
		tight sum
		most  *big.Int
	}{
		{of(0, 0, 2, 1, -4), big.NewInt(3), of(0, 0, 1, 1, -2), big.NewInt(1)},
		{of(0, 0, 2, 1, -4), big.NewInt(-3), of(0, 0, 1, 1, -2), big.NewInt(-2)},
		{of(0, 0, 2, 1, -4), big.NewInt(-4), of(0, 0, 1, 1, -2), big.NewInt(-2)},
		{of(0, 0, 6, 3, -9), big.NewInt(-1), of(0, 0, 2, 3, -3), big.NewInt(-1)},
		{of(0, 0, 6, 3, -9), big.NewInt(0), of(0, 0, 2, 3, -3), big.NewInt(0)},
		{of(0, 0, -5), big.NewInt(-14), of(0, 0, -1), big.NewInt(-3)},
		{of(0, 0, -5), big.NewInt(14), of(0, 0, -1), big.NewInt(2)},
		{of(0, 0, -1), big.NewInt(-14), of(0, 0, -1), big.NewInt(-14)},
		{of(0, 0, 4, 1, 6, 2, 9), big.NewInt(-7), of(0, 0, 4, 1, 6, 2, 9), big.NewInt(-7)},
		{of(0), big.NewInt(-7), of(0), big.NewInt(-7)},
		{of(0), big.NewInt(8), of(0), big.NewInt(8)},
		{of(0).with(2, top), big.NewInt(-1), of(0, 2, 1), big.NewInt(-1)},
		{of(0).with(2, minus(top)), top, of(0, 2, -1), big.NewInt(1)},
		{of(0, 2, 2), minus(top), of(0, 2, 1), minus(power(1023, 0))},
		{of(0, 2, 2), top, of(0, 2, 1), power(1023, -1)},
	} {
		r := rowOf(t, c.s, c.n)
		wantRow(t, text(r), c.tight, c.most, r.Tight(), api.OK)
		wantRow(t, text(r)+", twice", c.tight, c.most, r.Tight().Tight(), api.OK)
	}
}

// P3.5: Not, of Most up to the greatest number.
func TestNot(t *testing.T) {
	top := most()
	for _, c := range []struct {
		s       sum
		n, most *big.Int
	}{
		{of(0, 0, 2, 1, -4), big.NewInt(3), big.NewInt(-4)},
		{of(0, 0, 2, 1, -4), big.NewInt(-1), big.NewInt(0)},
		{of(0, 0, 2), big.NewInt(-7), big.NewInt(6)},
		{of(0), big.NewInt(0), big.NewInt(-1)},
		{of(0).with(1, top), power(1024, -2), minus(top)},
		{of(0).with(1, minus(top)), minus(top), power(1024, -2)},
	} {
		r := rowOf(t, c.s, c.n)
		got, err := r.Not()
		wantRow(t, "not "+text(r), c.s.neg(), c.most, got, err)
		back, err := got.Not()
		wantRow(t, "not not "+text(r), c.s, c.n, back, err)
	}
	for _, s := range []sum{of(0), of(0, 0, 1), of(0, 0, 2, 3, -8)} {
		got, err := rowOf(t, s, top).Not()
		wantNoRow(t, "of the greatest number", api.ErrBig, got, err)
	}
}

// wantHolds: whether it holds; if not fine, false beside ErrBig.
func wantHolds(t *testing.T, what string, holds, fine bool, got bool, err api.Errno) {
	t.Helper()
	if fine && (err != api.OK || got != holds) {
		t.Errorf("%s: %v, error %d; want %v", what, got, err, holds)
	}
	if !fine && (err != api.ErrBig || got) {
		t.Errorf("%s: %v, error %d; want false, error %d", what, got, err, api.ErrBig)
	}
}

// P3.5: Holds, just at Most and beside it, without values and without variables, and refused as At is.
func TestHolds(t *testing.T) {
	top := most()
	for _, c := range []struct {
		s      sum
		n      *big.Int
		values []*big.Int
		holds  bool
		fine   bool
	}{
		{of(0, 0, 2, 1, -4), big.NewInt(3), bigs(2, 0), false, true},
		{of(0, 0, 2, 1, -4), big.NewInt(4), bigs(2, 0), true, true},
		{of(0, 0, 2, 1, -4), big.NewInt(5), bigs(2, 0), true, true},
		{of(0, 0, 2, 1, -4), big.NewInt(-1), nil, false, true},
		{of(0, 0, 2, 1, -4), big.NewInt(0), nil, true, true},
		{of(0, 0, 2, 1, -4), big.NewInt(-4), bigs(0, 1, 9, 9), true, true},
		{of(0), big.NewInt(-1), bigs(5), false, true},
		{of(0), big.NewInt(0), bigs(5), true, true},
		{of(0, 0, 1), top, []*big.Int{top}, true, true},
		{of(0, 0, 1), power(1024, -2), []*big.Int{top}, false, true},
		{of(0, 0, 1, 1, 1), top, []*big.Int{top, big.NewInt(1)}, false, false},
		{of(0, 0, -2), top, []*big.Int{power(1023, 0)}, false, false},
	} {
		r := rowOf(t, c.s, c.n)
		got, err := r.Holds(wholes(t, c.values))
		wantHolds(t, text(r), c.holds, c.fine, got, err)
	}
	d := dice(16)
	for _, s := range sums(17, 300) {
		s, n, values := (sum{coefs: s.coefs, rest: new(big.Int)}), d.number(), d.values()
		value, fine := s.at(values)
		got, err := rowOf(t, s, n).Holds(wholes(t, values))
		wantHolds(t, s.text(), value.Cmp(n) <= 0, fine, got, err)
	}
}

// P3.7: at whole numbers a row holds just if its Tight does, and just if its Not doesn't.
func TestTightAndNotSayTheSame(t *testing.T) {
	d := dice(18)
	held := [2]int{}
	for range 4000 {
		factor, small := big.NewInt(int64(1+d.next(6))), of(0)
		for v := range 1 + d.next(4) {
			small = small.with(v, big.NewInt(int64(d.next(13)-6)))
		}
		r := rowOf(t, small.times(factor), big.NewInt(int64(d.next(41)-20)))
		not, err := r.Not()
		if err != api.OK {
			t.Fatalf("not %s: error %d", text(r), err)
		}
		values := wholes(t, bigs(int64(d.next(9)-4), int64(d.next(9)-4), int64(d.next(9)-4)))
		holds, _ := r.Holds(values)
		tight, _ := r.Tight().Holds(values)
		opposite, _ := not.Holds(values)
		notTight, _ := not.Tight().Holds(values)
		if tight != holds || opposite == holds || notTight == holds {
			t.Errorf("%s: %v, tight %v, not %v, not and tight %v", text(r), holds, tight, opposite, notTight)
		}
		if holds {
			held[1]++
		} else {
			held[0]++
		}
	}
	if held[0] < 500 || held[1] < 500 {
		t.Errorf("%d didn't hold, %d did: too few of one kind", held[0], held[1])
	}
}

// P3.7: just so at numbers of nearly MaxBits bits, just at the row's end.
func TestTightAndNotOfLargeNumbers(t *testing.T) {
	g := power(500, 3)
	for _, c := range []*big.Int{big.NewInt(1), big.NewInt(-1), power(20, 1), minus(power(20, 1))} {
		s := of(0).with(0, new(big.Int).Mul(c, g))
		for _, x := range []*big.Int{power(480, 0), minus(power(480, 0)), big.NewInt(0)} {
			value, _ := s.at([]*big.Int{x})
			for _, more := range []*big.Int{big.NewInt(-1), big.NewInt(0), big.NewInt(1), minus(g), g} {
				r := rowOf(t, s, new(big.Int).Add(value, more))
				not, errNot := r.Not()
				values := wholes(t, []*big.Int{x})
				holds, err := r.Holds(values)
				tight, errTight := r.Tight().Holds(values)
				opposite, errOpposite := not.Holds(values)
				if err != api.OK || errNot != api.OK || errTight != api.OK || errOpposite != api.OK || holds != (more.Sign() >= 0) || tight != holds || opposite == holds {
					t.Errorf("%s at %s: %v, tight %v, not %v", text(r), x, holds, tight, opposite)
				}
			}
		}
	}
}

// A row that was put together by hand may have a rest on the left: Holds counts it, Not turns it round, and nothing panics.
func TestRowWithRest(t *testing.T) {
	r := linear.Row{Sum: term(t, of(5, 0, 2)), Most: arith.From(9)}
	not, err := r.Not()
	if err != api.OK || !same(of(-5, 0, -2), not.Sum) || not.Most.Text() != "-10" {
		t.Errorf("not %s: %s, error %d", text(r), text(not), err)
	}
	for x, want := range []bool{true, true, true, false, false} {
		values := []arith.Int{arith.From(x)}
		holds, err := r.Holds(values)
		opposite, errNot := not.Holds(values)
		if holds != want || opposite == want || err != api.OK || errNot != api.OK {
			t.Errorf("%s at %d: %v, not %v", text(r), x, holds, opposite)
		}
	}
	if tight := r.Tight(); tight.Sum.Coef(0).Text() != "1" || tight.Most.Text() != "4" {
		t.Errorf("%s made tight: %s", text(r), text(tight))
	}
	if got := r.Plain(); !slices.Equal(got.Sum, []api.Mono{{Var: 0, Coef: "2"}}) || got.Most != "9" {
		t.Errorf("%s as plain data: %v", text(r), got)
	}
}
