package sat_test

import (
	"math"
	"slices"
	"testing"

	"surety/api"
	"surety/sat"
)

// P4.4: each once, rising by variables, the negative one first.
func TestSet(t *testing.T) {
	for _, c := range []struct{ lits, want []int }{
		{nil, nil},
		{[]int{}, nil},
		{[]int{3}, []int{3}},
		{[]int{2, 1}, []int{1, 2}},
		{[]int{1, -1}, []int{-1, 1}},
		{[]int{-1, 1}, []int{-1, 1}},
		{[]int{-3, 2, -3, 1, 2, 3}, []int{1, 2, -3, 3}},
		{[]int{5, -4, 4, -5, 5, -4}, []int{-4, 4, -5, 5}},
		{[]int{-10, 9}, []int{9, -10}},
		{[]int{math.MaxInt, -math.MaxInt, 1, -math.MaxInt}, []int{1, -math.MaxInt, math.MaxInt}},
	} {
		if got := sat.Set(c.lits); !slices.Equal(got, c.want) {
			t.Errorf("Set(%v): %v; want %v", c.lits, got, c.want)
		}
	}
}

// P4.4: what comes out has what went in, in its order.
func TestSetOfMany(t *testing.T) {
	d := dice(3)
	for range 300 {
		lits := d.clause(1+d.next(30), d.next(40))
		got := sat.Set(lits)
		if !bagOf(got).same(bagOf(lits)) {
			t.Fatalf("Set(%v): %v", lits, got)
		}
		for i := 1; i < len(got); i++ {
			a, b := got[i-1], got[i]
			if max(a, -a) > max(b, -b) || max(a, -a) == max(b, -b) && (a >= 0 || b <= 0) {
				t.Fatalf("Set(%v): %v: %d ahead of %d", lits, got, a, b)
			}
		}
	}
}

// P4.4, each case of the document's.
func TestResolve(t *testing.T) {
	for _, c := range []struct {
		a, b []int
		v    int
		want []int
	}{
		{[]int{1, 2}, []int{-1, 3}, 1, []int{2, 3}},
		{[]int{-1, 2}, []int{1, 3}, 1, []int{2, 3}},
		{[]int{1}, []int{-1}, 1, nil},
		{[]int{-1}, []int{1}, 1, nil},
		{[]int{7, 5, 5, 7}, []int{6, -7, 5, -7}, 7, []int{5, 6}},
		{[]int{1, 2}, []int{-1, -2}, 1, []int{-2, 2}},
		{[]int{1, 2}, []int{-1, -2}, 2, []int{-1, 1}},
		// both have both: the first case counts, a's opposite stays and so does b's variable
		{[]int{-1, 1}, []int{-1, 1}, 1, []int{-1, 1}},
		{[]int{-1, 1, 4}, []int{1, -1, 3}, 1, []int{-1, 1, 3, 4}},
		// a has both
		{[]int{-1, 1}, []int{-1, 3}, 1, []int{-1, 3}},
		{[]int{-1, 1}, []int{1, 3}, 1, []int{1, 3}},
		// b has both
		{[]int{1, 2}, []int{-1, 1}, 1, []int{1, 2}},
		{[]int{-1, 2}, []int{-1, 1}, 1, []int{-1, 2}},
		{[]int{math.MaxInt, 5000}, []int{-math.MaxInt, -5000}, math.MaxInt, []int{-5000, 5000}},
	} {
		if got, err := sat.Resolve(c.a, c.b, c.v); err != api.OK || !slices.Equal(got, c.want) {
			t.Errorf("Resolve(%v, %v, %d): %v, error %d; want %v", c.a, c.b, c.v, got, err, c.want)
		}
	}
}

// P4.4, wrong inputs: nothing beside the error.
func TestResolveRefuses(t *testing.T) {
	for _, c := range []struct {
		a, b []int
		v    int
	}{
		{nil, nil, 1},
		{[]int{1}, nil, 1},
		{nil, []int{-1}, 1},
		{[]int{1}, []int{1}, 1},
		{[]int{-1}, []int{-1}, 1},
		{[]int{1}, []int{-1}, 2},
		{[]int{1}, []int{-1}, -1},
		{[]int{0}, []int{0}, 0},
		{[]int{1, -1}, []int{2}, 1},
		{[]int{2}, []int{1, -1}, 1},
		{[]int{math.MinInt}, []int{math.MinInt}, math.MinInt},
	} {
		if got, err := sat.Resolve(c.a, c.b, c.v); err != api.ErrProof || len(got) != 0 {
			t.Errorf("Resolve(%v, %v, %d): %v, error %d; want ErrProof", c.a, c.b, c.v, got, err)
		}
	}
}

// P4.4: against the tests' own.
func TestResolveOfMany(t *testing.T) {
	d := dice(5)
	for range 2000 {
		a, b, v := d.clause(4, d.next(6)), d.clause(4, d.next(6)), d.next(6)-1
		want, ok := resolvedBag(bagOf(a), bagOf(b), v)
		got, err := sat.Resolve(a, b, v)
		if (err == api.OK) != ok || !slices.Equal(got, sat.Set(got)) || !bagOf(got).same(want) {
			t.Fatalf("Resolve(%v, %v, %d): %v, error %d; want %v", a, b, v, got, err, want)
		}
	}
}

// luby: by the words of the document.
func luby(n int) int {
	if n < 1 {
		return 0
	}
	power := 1
	for power <= n/2 {
		power *= 2
	}
	if n-power == power-1 {
		return power
	}
	return luby(n - power + 1)
}

// P4.4.
func TestLuby(t *testing.T) {
	want := []int{0, 1, 1, 2, 1, 1, 2, 4, 1, 1, 2, 1, 1, 2, 4, 8, 1}
	for n, w := range want {
		if got := sat.Luby(n); got != w {
			t.Errorf("Luby(%d): %d; want %d", n, got, w)
		}
	}
	for n := range 5000 {
		if got := sat.Luby(n); got != luby(n) {
			t.Errorf("Luby(%d): %d; want %d", n, got, luby(n))
		}
	}
	for k := range 62 {
		for more := -3; more <= 3; more++ {
			if n := 1<<(k+1) + more; sat.Luby(n) != luby(n) {
				t.Errorf("Luby(%d): %d; want %d", n, sat.Luby(n), luby(n))
			}
		}
	}
	for n, w := range map[int]int{math.MaxInt: 1 << 62, math.MaxInt - 1: 1 << 61, math.MaxInt - 2: 1 << 60, -1: 0, -7: 0, math.MinInt: 0} {
		if got := sat.Luby(n); got != w {
			t.Errorf("Luby(%d): %d; want %d", n, got, w)
		}
	}
}
