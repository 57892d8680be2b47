package simplex_test

import (
	"math"
	"math/big"
	"strconv"
	"strings"
	"testing"

	"surety/api"
	"surety/simplex"
)

func wantShows(t *testing.T, rows []api.Row, want api.Errno, parts ...api.Part) {
	t.Helper()
	if got := simplex.Shows(read(t, rows...), parts); got != want {
		t.Errorf("%v, %v: Shows is %d; want %d", rows, parts, got, want)
	}
}

func part(row int, mult string) api.Part { return api.Part{Row: row, Mult: mult} }

// P6.4: factors that show it.
func TestShows(t *testing.T) {
	wantShows(t, example(), api.OK, part(0, "1"), part(1, "1"), part(2, "1"))
	wantShows(t, example(), api.OK, part(0, "2/3"), part(1, "2/3"), part(2, "2/3"))
	wantShows(t, []api.Row{row(-1)}, api.OK, part(0, "1"))
	wantShows(t, []api.Row{row(5, 0, 1), row(-1), row(0)}, api.OK, part(1, "1/7"), part(2, "9"))
	wantShows(t, []api.Row{row(1, 0, 2), row(-2, 0, -3)}, api.OK, part(0, "1/2"), part(1, "1/3"))
	wantShows(t, []api.Row{row(1, 0, 2), row(-2, 0, -3)}, api.OK, part(0, "3"), part(1, "2"))
}

// P6.4: a row's place.
func TestShowsRowErrors(t *testing.T) {
	for _, n := range []int{-1, 3, math.MinInt, math.MaxInt} {
		wantShows(t, example(), api.ErrRow, part(n, "1"))
		wantShows(t, example(), api.ErrRow, part(n, "x"))
	}
	wantShows(t, nil, api.ErrRow, part(0, "1"))
	wantShows(t, example(), api.ErrRow, part(0, "1"), part(1, "1"), part(1, "1"), part(2, "1"))
	wantShows(t, example(), api.ErrRow, part(0, "1"), part(2, "1"), part(1, "1"))
	wantShows(t, example(), api.ErrRow, part(0, "1"), part(1, "1"), part(2, "1"), part(3, "1"))
	wantShows(t, example(), api.ErrRow, part(0, "1"), part(1, "1"), part(2, "1"), part(-1, "1"))
	wantShows(t, []api.Row{row(-1)}, api.ErrRow, part(0, "1"), part(0, "1"))
}

// P6.4: a factor's text, and that it is above 0.
func TestShowsFactorErrors(t *testing.T) {
	for _, text := range []string{"", "x", "1.5", "+1", "01", "2/4", "3/1", "1/0", "1/-2", "-0", "1/2/3", " 1", "1/" + strings.Repeat("x", 400)} {
		wantShows(t, []api.Row{row(-1)}, api.ErrDigit, part(0, text))
	}
	for _, text := range []string{power(1024, 0).String(), "1/" + power(1024, 0).String(), minus(power(1024, 0)).String()} {
		wantShows(t, []api.Row{row(-1)}, api.ErrBig, part(0, text))
	}
	for _, text := range []string{"0", "-1", "-1/2", minus(power(1024, -1)).String()} {
		wantShows(t, []api.Row{row(-1)}, api.ErrCert, part(0, text))
		wantShows(t, []api.Row{row(-1), row(-1)}, api.ErrCert, part(0, "1"), part(1, text))
	}
}

// P6.4: what is added isn't 0 at most less than 0.
func TestShowsNothing(t *testing.T) {
	wantShows(t, nil, api.ErrCert)
	wantShows(t, example(), api.ErrCert)
	wantShows(t, []api.Row{row(-1)}, api.ErrCert)
	wantShows(t, []api.Row{row(0)}, api.ErrCert, part(0, "1"))
	wantShows(t, []api.Row{row(1)}, api.ErrCert, part(0, "1"))
	wantShows(t, []api.Row{row(-1, 0, 1)}, api.ErrCert, part(0, "1"))
	wantShows(t, example(), api.ErrCert, part(0, "1"), part(1, "1"))
	wantShows(t, example(), api.ErrCert, part(0, "1"), part(1, "1"), part(2, "2"))
	wantShows(t, example(), api.ErrCert, part(0, "1"), part(1, "1"), part(2, "1/2"))
	wantShows(t, []api.Row{row(1, 0, 2), row(-1, 0, -2)}, api.ErrCert, part(0, "1"), part(1, "1"))
	wantShows(t, []api.Row{row(2, 0, 1), row(-1, 0, -1)}, api.ErrCert, part(0, "1"), part(1, "1"))
	wantShows(t, []api.Row{row(-9, 3, 1, 8, 1), row(-9, 3, -1, 8, 1)}, api.ErrCert, part(0, "1"), part(1, "1"))
}

// P6.4: products and sums with more than MaxBits bits: of Most first, then of each variable.
func TestShowsTooLarge(t *testing.T) {
	one, most := big.NewInt(1), power(1024, -1)
	// Most by the factor.
	wantShows(t, []api.Row{bigRow(minus(most))}, api.OK, part(0, "1"))
	wantShows(t, []api.Row{bigRow(minus(most))}, api.ErrBig, part(0, "2"))
	wantShows(t, []api.Row{bigRow(minus(most))}, api.OK, part(0, "1/2"))
	wantShows(t, []api.Row{row(-1)}, api.OK, part(0, most.String()))
	wantShows(t, []api.Row{row(-2)}, api.ErrBig, part(0, most.String()))
	// The sum of these.
	wantShows(t, []api.Row{bigRow(minus(most)), bigRow(one)}, api.OK, part(0, "1"), part(1, "1"))
	wantShows(t, []api.Row{bigRow(minus(most)), row(-1)}, api.ErrBig, part(0, "1"), part(1, "1"))
	wantShows(t, []api.Row{row(-1), row(-1)}, api.ErrBig, part(0, "1/"+power(1000, 0).String()), part(1, "1/"+power(1000, 1).String()))
	// A coefficient by the factor.
	wantShows(t, []api.Row{bigRow(one, 0, most)}, api.ErrCert, part(0, "1"))
	wantShows(t, []api.Row{bigRow(one, 0, most)}, api.ErrBig, part(0, "2"))
	wantShows(t, []api.Row{bigRow(one, 0, one, 9, minus(most))}, api.ErrBig, part(0, "2"))
	// The sum of these.
	wantShows(t, []api.Row{bigRow(one, 4, most), bigRow(one, 4, one)}, api.ErrBig, part(0, "1"), part(1, "1"))
	wantShows(t, []api.Row{bigRow(one, 4, most), bigRow(one, 4, minus(one))}, api.ErrCert, part(0, "1"), part(1, "1"))
	wantShows(t, []api.Row{bigRow(one, 4, most), bigRow(minus(big.NewInt(2)), 4, minus(most))}, api.OK, part(0, "1"), part(1, "1"))
	// What would fall back again is refused on its way.
	rows := []api.Row{bigRow(minus(most)), row(-1), row(1)}
	wantShows(t, rows, api.ErrBig, part(0, "1"), part(1, "1"), part(2, "1"))
	wantShows(t, []api.Row{rows[0], rows[2], rows[1]}, api.OK, part(0, "1"), part(1, "1"), part(2, "1"))
}

// P6.4 and rule 1: part by part, and in each the row ahead of the factor's text, that ahead of its sign, and that ahead of the sums.
func TestShowsOrder(t *testing.T) {
	most := power(1024, -1)
	rows := []api.Row{bigRow(most, 0, most), row(-1)}
	wantShows(t, rows, api.ErrRow, part(2, "x"))
	wantShows(t, rows, api.ErrDigit, part(0, "x"), part(2, "1"))
	wantShows(t, rows, api.ErrCert, part(0, "-2"), part(2, "x"))
	wantShows(t, rows, api.ErrCert, part(0, "0"), part(1, "x"))
	wantShows(t, rows, api.ErrBig, part(0, "2"), part(1, "x"))
	wantShows(t, rows, api.ErrBig, part(0, "2"), part(0, "1"))
	wantShows(t, rows, api.ErrDigit, part(0, "1"), part(1, "x"))
	wantShows(t, rows, api.ErrRow, part(0, "1"), part(0, "x"))
	wantShows(t, rows, api.ErrCert, part(0, "1"), part(1, "1"))
}

// P6.4: of any parts Shows answers as the chapter's words, reckoned with numbers of any size, where none is too large.
func TestShowsOfAnyParts(t *testing.T) {
	d := dice(17)
	mults := []string{"1", "2", "1/2", "3", "2/3", "5/7", "1/9", "6"}
	shown := 0
	for range 20000 {
		var rows []api.Row
		for range 1 + d.next(3) {
			rows = append(rows, row(d.number(2), 0, d.number(2), 1, d.number(1)))
		}
		var parts []api.Part
		for n := range rows {
			if d.next(4) > 0 {
				parts = append(parts, part(n, mults[d.next(1+d.next(len(mults)))]))
			}
		}
		want := api.ErrCert
		if refutes(rows, parts) {
			want = api.OK
			shown++
		}
		wantShows(t, rows, want, parts...)
	}
	if shown < 200 {
		t.Errorf("only %d were shown", shown)
	}
}

// P6.5: where numbers fulfil rows, no factors show that there are none, and Solve doesn't say so.
func TestFulfilledRowsAreNotRefuted(t *testing.T) {
	d := dice(23)
	for range 3000 {
		den := 1 + d.next(3)
		point := [3]int{d.number(9), d.number(9), d.number(9)} // each by den
		var rows []api.Row
		for range 1 + d.next(6) {
			r, sum := row(0), 0
			for v, x := range point {
				c := d.number(3)
				r.Sum = append(r.Sum, api.Mono{Var: v, Coef: strconv.Itoa(c)})
				sum += c * x
			}
			r.Most = strconv.Itoa((sum+30*den+den-1)/den - 30)
			rows = append(rows, r)
		}
		solve(t, system(t, rows...), rows, enough, api.Sat)
		for range 20 {
			var parts []api.Part
			for n := range rows {
				if d.next(2) == 0 {
					parts = append(parts, part(n, strconv.Itoa(1+d.next(4))))
				}
			}
			wantShows(t, rows, api.ErrCert, parts...)
		}
	}
}
