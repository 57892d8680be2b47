package arith_test

import (
	"math/big"
	"testing"

	"surety/api"
	"surety/arith"
)

// three: numbers of which some three together stay within MaxBits bits, and some don't.
func three(t *testing.T) []arith.Int {
	var list []arith.Int
	for _, b := range edges() {
		if b.BitLen() < 40 || b.BitLen() > 500 {
			list = append(list, ofBig(t, b))
		}
	}
	for _, b := range rough(12, 15) {
		list = append(list, ofBig(t, new(big.Int).Quo(b, power(700, 0))))
	}
	return list
}

type reckon func(a, b arith.Int) (arith.Int, api.Errno)

// both: step of step of a and b, and c; true, if nothing is refused.
func both(inner, outer reckon, a, b, c arith.Int) (arith.Int, bool) {
	x, err := inner(a, b)
	if err != api.OK {
		return x, false
	}
	y, err := outer(x, c)
	return y, err == api.OK
}

// P1.6: neither order nor brackets matter to adding and multiplying.
func TestOrderAndBrackets(t *testing.T) {
	list := three(t)
	for name, step := range map[string]reckon{"Add": arith.Add, "Mul": arith.Mul} {
		for _, a := range list {
			for _, b := range list {
				x, errX := step(a, b)
				y, errY := step(b, a)
				if errX != errY || arith.Cmp(x, y) != 0 {
					t.Errorf("%s of %s and %s hangs on their order", name, a.Text(), b.Text())
				}
				for _, c := range list {
					left, okLeft := both(step, step, a, b, c)
					right, okRight := both(step, step, b, c, a)
					if okLeft && okRight && left.Text() != right.Text() {
						t.Errorf("%s of %s, %s and %s hangs on brackets", name, a.Text(), b.Text(), c.Text())
					}
				}
			}
		}
	}
}

// P1.6: multiplying goes through adding.
func TestMulThroughAdd(t *testing.T) {
	list := three(t)
	for _, a := range list {
		for _, b := range list {
			for _, c := range list {
				whole, ok := both(arith.Add, arith.Mul, a, b, c)
				x, errX := arith.Mul(a, c)
				y, errY := arith.Mul(b, c)
				parts, err := arith.Add(x, y)
				if ok && errX == api.OK && errY == api.OK && err == api.OK && whole.Text() != parts.Text() {
					t.Errorf("(%s + %s) * %s: %s and %s", a.Text(), b.Text(), c.Text(), whole.Text(), parts.Text())
				}
			}
		}
	}
}

// useAll calls everything of two numbers; P1: nothing of that panics.
func useAll(a, b arith.Int) {
	a.Text()
	a.Small()
	a.Sign()
	a.Bits()
	a.Neg().Neg()
	a.Abs().Neg()
	arith.Cmp(a, b)
	arith.Add(a, b)
	arith.Sub(a, b)
	arith.Mul(a, b)
	arith.Div(a, b)
	arith.Gcd(a, b)
	arith.Sum(a, b, a, b)
	for _, n := range []int{-1, 0, 1, 2, 3, 1024} {
		arith.Pow(a, n)
	}
}

// P1 and P2: no call changes a number, its own answer or another's.
func TestNumbersStay(t *testing.T) {
	var list, answers []arith.Int
	var told, toldAnswers []string
	for _, b := range append(edges(), rough(13, 20)...) {
		x := ofBig(t, b)
		list, told = append(list, x), append(told, x.Text())
		for _, y := range []arith.Int{x.Neg(), x.Abs(), arith.Gcd(x, arith.From(0)), arith.Gcd(arith.From(0), x)} {
			answers, toldAnswers = append(answers, y), append(toldAnswers, y.Text())
		}
	}
	for _, a := range list {
		for _, b := range list {
			useAll(a, b)
		}
	}
	for _, a := range answers {
		useAll(a, list[len(list)-1])
	}
	for i, x := range list {
		if x.Text() != told[i] {
			t.Errorf("%s became %s", told[i], x.Text())
		}
	}
	for i, x := range answers {
		if x.Text() != toldAnswers[i] {
			t.Errorf("the answer %s became %s", toldAnswers[i], x.Text())
		}
	}
}

// P2: Sum changes neither its list nor the list's spare room, refused or not, and doesn't keep it.
func TestSumLeavesItsList(t *testing.T) {
	most := ofBig(t, power(1024, -1))
	for _, list := range [][]arith.Int{
		{arith.From(1), arith.From(-2), arith.From(3), arith.From(77)},
		{most, arith.From(1), arith.From(-1), arith.From(77)},
	} {
		before := make([]string, len(list))
		for i, x := range list {
			before[i] = x.Text()
		}
		first, errFirst := arith.Sum(list[:3]...)
		for i, x := range list {
			if x.Text() != before[i] {
				t.Errorf("at %d %s became %s", i, before[i], x.Text())
			}
		}
		if again, err := arith.Sum(list[:3]...); err != errFirst || again.Text() != first.Text() {
			t.Errorf("Sum of the same list: %s, error %d, then %s, error %d", first.Text(), errFirst, again.Text(), err)
		}
		kept := first.Text()
		list[0] = arith.From(1000)
		if first.Text() != kept {
			t.Errorf("a sum became %s when its list was changed", first.Text())
		}
	}
}

// P2: an answer hangs on its arguments alone: the same numbers, come by in other ways, answer the same.
func TestSameNumberSameAnswers(t *testing.T) {
	for _, b := range append(edges(), rough(14, 60)...) {
		x := ofBig(t, b)
		if b.BitLen() >= 1000 {
			continue
		}
		up, _ := arith.Add(x, ofBig(t, power(1010, 0)))
		down, _ := arith.Sub(up, ofBig(t, power(1010, 0)))
		if down.Text() != x.Text() || down.Bits() != x.Bits() || down.Sign() != x.Sign() || arith.Cmp(down, x) != 0 {
			t.Errorf("%s, come by through 2^1010, is %s of %d bits", x.Text(), down.Text(), down.Bits())
		}
		n, ok := x.Small()
		m, ok2 := down.Small()
		if n != m || ok != ok2 {
			t.Errorf("Small of %s: %d, %v and %d, %v", x.Text(), n, ok, m, ok2)
		}
	}
}
