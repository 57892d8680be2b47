package arith_test

import (
	"math/big"
	"testing"

	"surety/api"
	"surety/arith"
)

// The tests hold the package against math/big, and know of it only what its exported calls tell.

// num: the number of a text that must be one.
func num(t *testing.T, s string) arith.Int {
	t.Helper()
	x, err := arith.Parse(s)
	if err != api.OK {
		t.Fatalf("Parse(%q): error %d", s, err)
	}
	return x
}

func ofBig(t *testing.T, x *big.Int) arith.Int {
	t.Helper()
	return num(t, x.String())
}

// power: 2^k + more.
func power(k uint, more int64) *big.Int {
	x := new(big.Int).Lsh(big.NewInt(1), k)
	return x.Add(x, big.NewInt(more))
}

func fits(x *big.Int) bool { return x.BitLen() <= api.MaxBits }

// want: got is x, or, if x has too many bits, 0 beside ErrBig.
func want(t *testing.T, what string, x *big.Int, got arith.Int, err api.Errno) {
	t.Helper()
	if !fits(x) {
		wantError(t, what, api.ErrBig, got, err)
		return
	}
	if err != api.OK || got.Text() != x.String() {
		t.Errorf("%s: %s, error %d; want %s", what, got.Text(), err, x)
	}
}

// wantError: that error, and 0 beside it.
func wantError(t *testing.T, what string, code api.Errno, got arith.Int, err api.Errno) {
	t.Helper()
	if err != code || got.Text() != "0" || got.Sign() != 0 || got.Bits() != 0 {
		t.Errorf("%s: %s, error %d; want 0, error %d", what, got.Text(), err, code)
	}
}

// edges: 0, small numbers, and those beside the powers of 2 at which machines' numbers, limbs or all numbers end; of both signs.
func edges() []*big.Int {
	list := []*big.Int{big.NewInt(0)}
	put := func(x *big.Int) {
		if x.Sign() > 0 && fits(x) {
			list = append(list, x, new(big.Int).Neg(x))
		}
	}
	for _, n := range []int64{1, 2, 3, 7, 10, 12, 18, 1000000000} {
		put(big.NewInt(n))
	}
	for _, k := range []uint{8, 31, 32, 33, 63, 64, 65, 96, 127, 128, 512, 1023, 1024} {
		for more := int64(-1); more <= 1; more++ {
			put(power(k, more))
		}
	}
	return list
}

// dice is a row of numbers that is always the same.
type dice uint64

func (d *dice) next(below int) int {
	*d = *d*6364136223846793005 + 1442695040888963407
	return int(uint64(*d)>>33) % below
}

// rough: numbers of up to 1024 bits with long runs of ones and of noughts, where carries and guessed quotients go wrong most easily; of both signs.
func rough(seed uint64, count int) []*big.Int {
	d := dice(seed)
	words := []uint32{0, 0, 1, 2, 0x7fffffff, 0x80000000, 0x80000001, 0xfffffffe, 0xffffffff, 0xffffffff}
	var list []*big.Int
	for len(list) < count {
		x := new(big.Int)
		for range 1 + d.next(32) {
			w := uint32(d.next(1<<31)) << 1
			if d.next(4) > 0 {
				w = words[d.next(len(words))]
			}
			x.Lsh(x, 32)
			x.Or(x, big.NewInt(int64(w)))
		}
		x.Rsh(x, uint(d.next(32)))
		if d.next(2) == 0 {
			x.Neg(x)
		}
		list = append(list, x)
	}
	return list
}
