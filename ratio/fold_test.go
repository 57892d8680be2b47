package ratio_test

import (
	"math/big"
	"testing"

	"surety/api"
	"surety/ratio"
)

func rats(t *testing.T, list ...string) []ratio.Rat {
	t.Helper()
	var out []ratio.Rat
	for _, s := range list {
		out = append(out, rat(t, s))
	}
	return out
}

// P2.5: step gets what there is and the next of the list, in that order.
func TestFoldOrder(t *testing.T) {
	asked := ""
	step := func(x, y ratio.Rat) (ratio.Rat, api.Errno) {
		asked += x.Text() + "," + y.Text() + ";"
		return ratio.Sub(x, y)
	}
	got, err := ratio.Fold(rat(t, "10"), rats(t, "1", "1/2", "3"), step)
	want(t, "10 less 1, 1/2 and 3", big.NewRat(11, 2), got, err)
	if asked != "10,1;9,1/2;17/2,3;" {
		t.Errorf("asked for %s", asked)
	}
	got, err = ratio.Fold(rat(t, "2/3"), rats(t, "5", "7/2"), ratio.Quo)
	want(t, "2/3 by 5 by 7/2", big.NewRat(4, 105), got, err)
}

// P2.5: of an empty list the start is answered, and nothing is asked.
func TestFoldEmpty(t *testing.T) {
	never := func(x, y ratio.Rat) (ratio.Rat, api.Errno) {
		t.Error("step was asked")
		return x, api.ErrBig
	}
	for _, list := range [][]ratio.Rat{nil, {}} {
		got, err := ratio.Fold(rat(t, "-3/2"), list, never)
		want(t, "nothing", big.NewRat(-3, 2), got, err)
		got, err = ratio.Sum(list...)
		want(t, "the sum of nothing", new(big.Rat), got, err)
	}
	got, err := ratio.Sum()
	want(t, "the sum of nothing at all", new(big.Rat), got, err)
}

// P2.5: the first error is told, whichever it is, with 0 beside it, and nothing behind it is asked.
func TestFoldFirstError(t *testing.T) {
	for at, code := range []api.Errno{api.ErrBig, api.ErrZero, api.ErrRange, api.Errno(-5), api.Errno(9999)} {
		count := 0
		step := func(x, y ratio.Rat) (ratio.Rat, api.Errno) {
			count++
			if count == at+1 {
				return rat(t, "7/3"), code
			}
			if count > at+1 {
				return x, api.ErrDigit
			}
			return y, api.OK
		}
		got, err := ratio.Fold(rat(t, "5"), rats(t, "1", "2", "3", "4", "5", "6"), step)
		wantError(t, "an error on the way", code, got, err)
		if count != at+1 {
			t.Errorf("%d steps, the error was at %d", count, at+1)
		}
	}
}

// P1: a step that is nil, or panics, makes no panic of Fold.
func TestFoldWithoutStep(t *testing.T) {
	got, err := ratio.Fold(rat(t, "5"), nil, nil)
	want(t, "no step of nothing", big.NewRat(5, 1), got, err)
	broken := func(x, y ratio.Rat) (ratio.Rat, api.Errno) { panic("broken") }
	for _, step := range []func(x, y ratio.Rat) (ratio.Rat, api.Errno){nil, broken} {
		got, err := ratio.Fold(rat(t, "5"), rats(t, "1", "2"), step)
		if err == api.OK || !same(new(big.Rat), got) {
			t.Errorf("no step: %s, error %d", got.Text(), err)
		}
	}
}

// P2.5: Sum from the left on: the first error counts, even where another order would do.
func TestSum(t *testing.T) {
	got, err := ratio.Sum(rats(t, "1/2", "1/3", "1/6", "-5", "3/4")...)
	want(t, "a sum", big.NewRat(-13, 4), got, err)
	got, err = ratio.Sum(rat(t, "-3/2"))
	want(t, "of one", big.NewRat(-3, 2), got, err)
	most := power(1024, -1).String()
	got, err = ratio.Sum(rats(t, most, "1", "-1")...)
	wantError(t, "too large on the way", api.ErrBig, got, err)
	got, err = ratio.Sum(rats(t, "1", "-1", most)...)
	want(t, "in another order", new(big.Rat).SetInt(power(1024, -1)), got, err)
	got, err = ratio.Sum(rats(t, most, "-1", "1")...)
	want(t, "in a third order", new(big.Rat).SetInt(power(1024, -1)), got, err)
}

// P2.5: Sum is Fold of 0, the list and Add.
func TestSumIsFold(t *testing.T) {
	d := dice(11)
	list := append(edges(), rough(12, 60, 300)...)
	for range 300 {
		var part []ratio.Rat
		for range d.next(6) {
			part = append(part, of(t, list[d.next(len(list))]))
		}
		got, err := ratio.Sum(part...)
		folded, errFold := ratio.Fold(ratio.Rat{}, part, ratio.Add)
		if err != errFold || got.Text() != folded.Text() {
			t.Errorf("Sum of %s: %s, error %d; by Fold %s, error %d", texts(part), got.Text(), err, folded.Text(), errFold)
		}
	}
}

// useAll calls everything of two numbers; P1: nothing of that panics.
func useAll(x, y ratio.Rat) {
	x.Text()
	x.Num().Neg()
	x.Den().Neg()
	x.IsWhole()
	x.Sign()
	x.Neg().Neg()
	x.Floor()
	x.Ceil()
	ratio.Cmp(x, y)
	ratio.Add(x, y)
	ratio.Sub(x, y)
	ratio.Mul(x, y)
	ratio.Inv(x)
	ratio.Quo(x, y)
	ratio.Sum(x, y, x, y)
	ratio.Of(x.Num(), y.Num())
	ratio.Whole(x.Num())
}

// P1 and P2: no call changes a number, nor what a list and its spare room hold, nor keeps a list.
func TestNumbersStay(t *testing.T) {
	list := allOf(t, append(edges(), rough(13, 20, 1024)...))
	before := texts(list)
	for i, x := range list {
		// Every fifth will do, another one each time.
		for j := i % 5; j < len(list); j += 5 {
			useAll(x, list[j])
		}
	}
	short, _ := ratio.Sum(list[:3]...)
	ratio.Sum(list[:20]...)
	ratio.Fold(list[4], list[:9], ratio.Mul)
	if texts(list) != before {
		t.Error("numbers were changed")
	}
	told := short.Text()
	list[0], list[1], list[2] = ratio.Rat{}, ratio.Rat{}, ratio.Rat{}
	if short.Text() != told {
		t.Errorf("a sum became %s when its list was changed", short.Text())
	}
}
