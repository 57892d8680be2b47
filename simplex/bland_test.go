package simplex

import (
	"testing"

	"surety/api"
	"surety/arith"
	"surety/linear"
)

// roll: a number from -most to most; the seed goes on.
func roll(seed *uint64, most int) int {
	*seed = *seed*6364136223846793005 + 1442695040888963407
	return int(*seed>>33)%(2*most+1) - most
}

// rolledRows: over so many variables, with small numbers; half of the sums are to be 0 at most, where a search turns in a circle most easily.
func rolledRows(t *testing.T, seed *uint64, rows, vars int) []linear.Row {
	var list []linear.Row
	for range rows {
		var sum linear.Term
		for v := range vars {
			x, _ := linear.Var(v)
			scaled, _ := linear.Scale(x, arith.From(roll(seed, 9)))
			next, err := linear.Add(sum, scaled)
			if err != api.OK {
				t.Fatal(err)
			}
			sum = next
		}
		most := arith.From(roll(seed, 9))
		if roll(seed, 1) == 0 {
			most = arith.Int{}
		}
		list = append(list, linear.Row{Sum: sum, Most: most})
	}
	return list
}

// P6.2: the rule that takes over when a search has lasted long comes to an end, and to the same verdict, wherever it begins; of small systems in far fewer steps than are promised to be enough.
func TestLastRule(t *testing.T) {
	seed := uint64(43)
	for i := range 6000 {
		rows := rolledRows(t, &seed, 6, 4)
		if i%10 == 0 {
			rows = rolledRows(t, &seed, 16, 6)
		}
		want := newTableau(rows).search(5000).verdict
		for patience := range 4 {
			s := newTableau(rows)
			s.patience = patience
			if got := s.search(5000); got.verdict != want || want == api.Unknown || s.steps > 1000 {
				t.Fatalf("system %d: verdict %d in %d steps; want %d", i, got.verdict, s.steps, want)
			}
		}
	}
}
