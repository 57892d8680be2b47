package lia_test

import (
	"math"
	"math/big"
	"slices"
	"testing"

	"surety/api"
	"surety/lia"
	"surety/linear"
)

// strip: 1 <= 2 x0 + x1 <= 1, where x1 is 0: of these a split at 0 shows that there is nothing.
func strip(t testing.TB) []linear.Row {
	return read(t, row(1, 0, 2, 1, 1), row(-1, 0, -2, 1, -1), row(0, 1, 1), row(0, 1, -1))
}

// low, high: the leaves of the split of strip, the first with x0 at most 0 as row 4, the second with x0 at least 1.
func low() api.Branch  { return leafOf(1, "1/2", 2, "1/2", 4, "1") }
func high() api.Branch { return leafOf(0, "1/2", 3, "1/2", 4, "1") }

// P7.2: leaves and splits that show it, and ones that don't.
func TestCheck(t *testing.T) {
	rows := strip(t)
	wantCheck(t, "a split", rows, splitOf(0, "0", low(), high()), api.OK)
	wantCheck(t, "the kids changed", rows, splitOf(0, "0", high(), low()), api.ErrCert)
	wantCheck(t, "another place", rows, splitOf(0, "1", low(), high()), api.ErrCert)
	wantCheck(t, "another variable", rows, splitOf(1, "0", low(), high()), api.ErrCert)
	wantCheck(t, "a leaf without the split", rows, low(), api.ErrRow)
	wantCheck(t, "a leaf without parts", rows, leafOf(), api.ErrCert)
	wantCheck(t, "a leaf that names too little", rows, leafOf(1, "1/2", 2, "1/2"), api.ErrCert)
	wantCheck(t, "a split of splits", rows, splitOf(1, "5", splitOf(0, "0", leafOf(1, "1/2", 2, "1/2", 5, "1"), leafOf(0, "1/2", 3, "1/2", 5, "1")), leafOf(2, "1", 4, "1")), api.OK)
	wantCheck(t, "the chapter's example", read(t, example()...), leafOf(0, "1", 1, "1"), api.OK)
	wantCheck(t, "no rows", nil, leafOf(), api.ErrCert)
	wantCheck(t, "no rows, and splits", nil, splitOf(3, "7", leafOf(0, "1"), leafOf(0, "1")), api.ErrCert)
	wantCheck(t, "the zero tree", rows, api.Branch{}, api.ErrDigit)
}

// P7.2: the rows are made Tight first, those of splits aren't rounded, but hold as they are.
func TestCheckMakesTight(t *testing.T) {
	wantCheck(t, "3 <= 2 x0 <= 3", read(t, equal(3, 0, 2)...), leafOf(0, "1", 1, "1"), api.OK)
	wantCheck(t, "2 <= 2 x0 <= 3", read(t, row(3, 0, 2), row(-2, 0, -2)), leafOf(0, "1", 1, "1"), api.ErrCert)
	wantCheck(t, "6 x0 - 9 x1 is 7, factors of the rows as they were", read(t, equal(7, 0, 6, 1, -9)...), leafOf(0, "3", 1, "3"), api.OK)
	wantCheck(t, "a split next to a row", read(t, row(-4, 7, -4)), splitOf(7, "0", leafOf(0, "1", 1, "1"), leafOf(0, "1", 1, "1")), api.ErrCert)
}

// P7.2: simplex.Shows's errors of a leaf's parts.
func TestCheckLeaves(t *testing.T) {
	rows := strip(t)
	for _, c := range []struct {
		want api.Errno
		leaf api.Branch
	}{
		{api.ErrRow, leafOf(-1, "1")},
		{api.ErrRow, leafOf(5, "1")},
		{api.ErrRow, leafOf(1, "1/2", 1, "1/2")},
		{api.ErrRow, leafOf(2, "1/2", 1, "1/2")},
		{api.ErrDigit, leafOf(1, "x")},
		{api.ErrDigit, leafOf(1, "")},
		{api.ErrCert, leafOf(1, "0")},
		{api.ErrCert, leafOf(1, "-1")},
		{api.ErrCert, leafOf(0, "1", 1, "1")},
		{api.ErrCert, leafOf(4, "1")},
		{api.ErrBig, leafOf(1, power(api.MaxBits, -1).String())},
	} {
		wantCheck(t, "the first kid", rows, splitOf(0, "0", c.leaf, high()), c.want)
		wantCheck(t, "the second kid", rows, splitOf(0, "0", low(), c.leaf), c.want)
	}
}

// P7.2: the errors of a split, in their order: the variable, the text, one more than that, how many kids; then the first kid, then the second.
func TestCheckOrder(t *testing.T) {
	rows := strip(t)
	top := power(api.MaxBits, -1).String()
	over := power(api.MaxBits, 0).String()
	wrong := splitOf(-1, "0")
	none := []api.Branch{}
	one := []api.Branch{low()}
	three := []api.Branch{low(), high(), high()}
	for _, c := range []struct {
		what string
		want api.Errno
		tree api.Branch
	}{
		{"no variable, no text, no kid", api.ErrVar, splitOf(-1, "x", none...)},
		{"a variable too high, no text", api.ErrVar, splitOf(api.MaxVars, "", one...)},
		{"odd variables", api.ErrVar, splitOf(math.MinInt, top, three...)},
		{"odd variables", api.ErrVar, splitOf(math.MaxInt, "0", low(), high())},
		{"no text, no kid", api.ErrDigit, splitOf(0, "", none...)},
		{"no number's text, three kids", api.ErrDigit, splitOf(0, "1/2", three...)},
		{"a text too large", api.ErrBig, splitOf(0, over, low(), high())},
		{"too large by one, no kid", api.ErrBig, splitOf(0, top, none...)},
		{"too large by one", api.ErrBig, splitOf(0, top, low(), high())},
		{"no kid", api.ErrCert, splitOf(0, "0", none...)},
		{"one kid", api.ErrCert, splitOf(0, "0", one...)},
		{"three kids", api.ErrCert, splitOf(0, "0", three...)},
		{"three kids, the first wrong", api.ErrCert, splitOf(0, "0", wrong, low(), high())},
		{"the first kid wrong, the second otherwise", api.ErrVar, splitOf(0, "0", wrong, leafOf(9, "1"))},
		{"the other way", api.ErrRow, splitOf(0, "0", leafOf(9, "1"), wrong)},
		{"the second kid wrong", api.ErrVar, splitOf(0, "0", low(), wrong)},
		{"the second kid's kids", api.ErrCert, splitOf(0, "0", low(), splitOf(1, "1", one...))},
	} {
		wantCheck(t, c.what, rows, c.tree, c.want)
	}
	// The least number, one less than the greatest, and the last variable may be split at.
	for _, at := range []string{minus(power(api.MaxBits, -1)).String(), power(api.MaxBits, -2).String()} {
		wantCheck(t, at, read(t, row(-1)), splitOf(api.MaxVars-1, at, leafOf(0, "1"), leafOf(0, "1")), api.OK)
	}
}

// P7.2: the rows of a split are just that: at most the number, or at least one more, at the ends of all numbers too.
func TestCheckSides(t *testing.T) {
	for _, n := range []*big.Int{big.NewInt(0), big.NewInt(-1), big.NewInt(12), power(700, 3), power(api.MaxBits, -2), minus(power(api.MaxBits, -1))} {
		one := big.NewInt(1)
		more := new(big.Int).Add(n, one)
		// x0 is at least one more, and at most n: each row shuts one kid.
		rows := read(t, bigRow(minus(more), 0, minus(one)), bigRow(n, 0, one))
		wantCheck(t, n.String(), rows, splitOf(0, n.String(), leafOf(0, "1", 2, "1"), leafOf(1, "1", 2, "1")), api.OK)
		// x0 is at least n, and at most one more: neither does.
		rows = read(t, bigRow(minus(n), 0, minus(one)), bigRow(more, 0, one))
		wantCheck(t, n.String(), rows, splitOf(0, n.String(), leafOf(0, "1", 2, "1"), leafOf(1, "1", 2, "1")), api.ErrCert)
	}
}

// P7.2: what a leaf has beside Parts doesn't matter, nor do the Parts of another one.
func TestCheckOtherFields(t *testing.T) {
	rows := strip(t)
	leaf := low()
	leaf.Var, leaf.Split, leaf.Kids = -5, "none", []api.Branch{{}, {}, {}}
	tree := splitOf(0, "0", leaf, high())
	tree.Parts = leafOf(-7, "x").Parts
	wantCheck(t, "a leaf with a split's fields, and a split with parts", rows, tree, api.OK)
	tree.Parts = leafOf(0, "1", 1, "1").Parts
	wantCheck(t, "a split with other parts", rows, tree, api.OK)
	tree.Kids[1].Leaf = false
	wantCheck(t, "a leaf that isn't called one", rows, tree, api.ErrDigit)
	false0 := splitOf(0, "0")
	false0.Parts = leafOf(0, "1").Parts
	wantCheck(t, "a split whose parts would show it", read(t, row(-1)), false0, api.ErrCert)
}

// nested: a leaf that lies in so many splits, first or last of its kids; the other kids are leaves that show it.
func nested(depth int, first bool, end api.Branch) api.Branch {
	other := leafOf(0, "1")
	for range depth {
		if first {
			end = splitOf(1, "0", end, other)
		} else {
			end = splitOf(1, "0", other, end)
		}
	}
	return end
}

// P7.2: a tree may lie in 200 others, not in 201; that is told ahead of all else that is wrong there, but behind what comes ahead of it.
func TestCheckDepth(t *testing.T) {
	rows := read(t, row(-1))
	good, bad := leafOf(0, "1"), splitOf(-1, "x")
	for _, first := range []bool{true, false} {
		wantCheck(t, "200", rows, nested(api.MaxForm, first, good), api.OK)
		wantCheck(t, "201", rows, nested(api.MaxForm+1, first, good), api.ErrDeep)
		wantCheck(t, "200, wrong", rows, nested(api.MaxForm, first, bad), api.ErrVar)
		wantCheck(t, "201, wrong", rows, nested(api.MaxForm+1, first, bad), api.ErrDeep)
		wantCheck(t, "5000", rows, nested(5000, first, good), api.ErrDeep)
	}
	wantCheck(t, "200, without kids", rows, nested(api.MaxForm, true, splitOf(0, "0")), api.ErrCert)
	wantCheck(t, "wrong ahead of what lies too deep", rows, splitOf(0, "0", leafOf(), nested(api.MaxForm, true, good)), api.ErrCert)
	wantCheck(t, "wrong behind what lies too deep", rows, splitOf(0, "0", nested(api.MaxForm, true, good), leafOf()), api.ErrDeep)
}

// P7.2: in a leaf the rows of all splits that it lies in are there, in their order, and none more.
func TestCheckDeepRows(t *testing.T) {
	// x1 is at least 1, and at most 0: each first kid says the latter again, each second one the former.
	rows := read(t, row(-1, 1, -1), row(0, 1, 1))
	for last, want := range map[int]api.Errno{api.MaxForm + 1: api.OK, 2: api.OK, api.MaxForm + 2: api.ErrRow} {
		tree := leafOf(0, "1", last, "1")
		for place := api.MaxForm + 1; place > 1; place-- {
			tree = splitOf(1, "0", tree, leafOf(1, "1", place, "1"))
		}
		wantCheck(t, "the last row", rows, tree, want)
	}
}

// P7.2: each kid has its own row, behind the others, though the other kid's is gone.
func TestCheckKidsAreApart(t *testing.T) {
	// 4 x0 + x1 is 5, and x1 is 0.
	rows := read(t, slices.Concat(equal(5, 0, 4, 1, 1), equal(0, 1, 1))...)
	wantCheck(t, "one split", rows, splitOf(0, "1", leafOf(1, "1/4", 2, "1/4", 4, "1"), leafOf(0, "1/4", 3, "1/4", 4, "1")), api.OK)
	deep := splitOf(0, "9", splitOf(0, "1", leafOf(1, "1/4", 2, "1/4", 5, "1"), leafOf(0, "1/4", 3, "1/4", 5, "1")), leafOf(0, "1/4", 3, "1/4", 4, "1"))
	wantCheck(t, "two splits", rows, deep, api.OK)
	deep.Kids[1] = leafOf(0, "1/4", 3, "1/4", 5, "1")
	wantCheck(t, "a row of the other kid", rows, deep, api.ErrRow)
}

// P7.2: Check takes more rows than a system may have.
func TestCheckManyRows(t *testing.T) {
	rows := slices.Repeat(read(t, row(3, 0, 1)), api.MaxRows+10)
	rows[api.MaxRows+5] = read(t, row(-1))[0]
	wantCheck(t, "a leaf", rows, leafOf(api.MaxRows+5, "1"), api.OK)
	wantCheck(t, "a split", rows, splitOf(0, "0", leafOf(api.MaxRows+5, "1"), leafOf(0, "1", len(rows), "1")), api.ErrCert)
}

func wantUses(t *testing.T, what string, b api.Branch, count int, want ...int) {
	t.Helper()
	if got := lia.Uses(b, count); !slices.Equal(got, want) {
		t.Errorf("%s: Uses(%d) is %v; want %v", what, count, got, want)
	}
}

// P7.3: the places that the leaves name, below count, rising, each once.
func TestUses(t *testing.T) {
	b := splitOf(0, "0", leafOf(7, "1", 2, "1/2", 2, "1", 9, "1"), splitOf(1, "0", leafOf(0, "1", 9, "3"), leafOf(4, "1", 5, "1")))
	wantUses(t, "all", b, 100, 0, 2, 4, 5, 7, 9)
	wantUses(t, "up to the last", b, 10, 0, 2, 4, 5, 7, 9)
	wantUses(t, "without the last", b, 9, 0, 2, 4, 5, 7)
	wantUses(t, "up to 4", b, 4, 0, 2)
	wantUses(t, "1", b, 1, 0)
	for _, count := range []int{0, -1, math.MinInt} {
		wantUses(t, "none", b, count)
	}
	wantUses(t, "all", b, math.MaxInt, 0, 2, 4, 5, 7, 9)
	wantUses(t, "odd places", leafOf(-1, "1", math.MinInt, "1", math.MaxInt, "1", 3, "1"), math.MaxInt, 3)
	wantUses(t, "about MaxRows", leafOf(api.MaxRows-1, "1", api.MaxRows, "1", api.MaxRows+1, "1"), math.MaxInt, api.MaxRows-1)
	wantUses(t, "at MaxRows", leafOf(api.MaxRows-1, "1", api.MaxRows, "1"), api.MaxRows, api.MaxRows-1)
	wantUses(t, "below MaxRows", leafOf(api.MaxRows-2, "1", api.MaxRows-1, "1"), api.MaxRows-1, api.MaxRows-2)
	wantUses(t, "factors that are none", leafOf(3, "", 1, "x", 2, "-1"), 9, 1, 2, 3)
	wantUses(t, "the zero tree", api.Branch{}, 9)
	wantUses(t, "one kid, and three", splitOf(-1, "x", splitOf(0, "0", leafOf(3, "1")), leafOf(1, "1"), leafOf(2, "1")), 9, 1, 2, 3)
}

// P7.3: what a split has as parts, and a leaf as kids, doesn't count.
func TestUsesOtherFields(t *testing.T) {
	b := splitOf(0, "0", leafOf(1, "1"), leafOf(2, "1"))
	b.Parts = leafOf(5, "1").Parts
	b.Kids[0].Kids = []api.Branch{leafOf(6, "1")}
	wantUses(t, "other fields", b, 9, 1, 2)
}

// P7.3: what lies in more than MaxForm others doesn't count.
func TestUsesDepth(t *testing.T) {
	for _, first := range []bool{true, false} {
		wantUses(t, "200", nested(api.MaxForm, first, leafOf(5, "1")), 9, 0, 5)
		wantUses(t, "201", nested(api.MaxForm+1, first, leafOf(5, "1")), 9, 0)
		wantUses(t, "5000", nested(5000, first, leafOf(5, "1")), 9, 0)
	}
}

// P7.3: the rows that the tree of an Unsat names are enough for it.
func TestUsesAreEnough(t *testing.T) {
	d := dice(19)
	fewer := 0
	for range 600 {
		rows, _ := d.inWindow()
		a := solve(t, rows, enough)
		if a.Verdict != api.Unsat {
			continue
		}
		var kept []api.Row
		for _, place := range lia.Uses(a.Cert, len(rows)) {
			kept = append(kept, rows[place])
		}
		if len(kept) < len(rows) {
			fewer++
		}
		if tried(kept, 3, 5) != api.Unsat {
			t.Fatalf("%v: some fulfil %v", rows, kept)
		}
	}
	if fewer < 100 {
		t.Errorf("only %d name fewer rows", fewer)
	}
}

// mixed: a tree at random over so many rows and a few variables.
func (d *dice) mixed(rows, depth int) api.Branch {
	if depth == 0 || d.next(3) == 0 {
		b := api.Branch{Leaf: true}
		for i := range rows {
			if d.next(3) == 0 {
				b.Parts = append(b.Parts, api.Part{Row: i, Mult: []string{"1", "2", "1/2", "3", "1/3"}[d.next(5)]})
			}
		}
		return b
	}
	return splitOf(d.next(2), []string{"-1", "0", "1"}[d.next(3)], d.mixed(rows+1, depth-1), d.mixed(rows+1, depth-1))
}

// P7.4: where whole numbers fulfil rows, no tree shows that there are none; and Check is as the chapter's words say, with numbers of any size.
func TestNoTreeShowsWhatIsnt(t *testing.T) {
	d := dice(23)
	count := 0
	for range 60000 {
		rows := []api.Row{row(d.number(2), 0, d.number(2), 1, d.number(2)), row(d.number(2), 0, d.number(2)), row(d.number(2), 1, d.number(2))}
		b := d.mixed(len(rows), 2)
		err := lia.Check(read(t, rows...), b)
		if (err == api.OK) != shown(tight(rows), b, 0) {
			t.Fatalf("%v: %v: error %d", rows, b, err)
		}
		if err == api.OK {
			count++
			if tried(rows, 2, 6) == api.Sat {
				t.Fatalf("%v: %v shows what isn't so", rows, b)
			}
		}
	}
	if count < 500 {
		t.Errorf("only %d trees show something", count)
	}
}

// P7.4: the tree of rows that nothing fulfils doesn't do for those that something fulfils, be they ever so near.
func TestTreesOfOtherRows(t *testing.T) {
	d := dice(29)
	count := 0
	for range 1500 {
		rows, vars := d.inWindow()
		a := solve(t, rows, enough)
		if a.Verdict != api.Unsat {
			continue
		}
		for range 10 {
			near := slices.Clone(rows)
			at := d.next(len(near))
			near[at].Most = new(big.Int).Add(whole(near[at].Most), big.NewInt(int64(d.next(4)))).String()
			if tried(near, vars, 6) == api.Sat {
				count++
				if lia.Check(read(t, near...), a.Cert) == api.OK {
					t.Fatalf("%v: %v shows what isn't so", near, a.Cert)
				}
			}
		}
	}
	if count < 300 {
		t.Errorf("only %d rows that are near are fulfilled", count)
	}
}
