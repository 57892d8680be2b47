package lia_test

import (
	"math"
	"slices"
	"strconv"
	"strings"
	"testing"

	"surety/api"
	"surety/arith"
	"surety/lia"
	"surety/linear"
)

// told: all that an answer tells.
func told(a lia.Answer) string {
	return strings.Join(append(texts(a.Values), strconv.Itoa(int(a.Verdict)), strconv.Itoa(a.Steps), treeText(a.Cert)), " ")
}

func treeText(b api.Branch) string {
	out := "(" + strconv.FormatBool(b.Leaf) + " " + strconv.Itoa(b.Var) + " " + b.Split
	for _, p := range b.Parts {
		out += " " + strconv.Itoa(p.Row) + ":" + p.Mult
	}
	for _, kid := range b.Kids {
		out += " " + treeText(kid)
	}
	return out + ")"
}

func rowTexts(rows []linear.Row) []string {
	var out []string
	for _, r := range rows {
		out = append(out, r.Sum.Text()+" <= "+r.Most.Text())
	}
	return out
}

// spoil changes all that a tree has.
func spoil(b *api.Branch) {
	for i := range b.Parts {
		b.Parts[i] = api.Part{Row: 77, Mult: "x"}
	}
	for i := range b.Kids {
		spoil(&b.Kids[i])
		b.Kids[i] = api.Branch{Var: -1}
	}
	_ = append(b.Parts, api.Part{Row: 78})
	_ = append(b.Kids, api.Branch{Var: -2})
}

// P2: the same rows have the same answer, whatever was changed in an answer ahead or is called between; the rows and their spare room stay as they were.
func TestNothingIsShared(t *testing.T) {
	d := dice(31)
	for range 300 {
		plain, _ := d.inWindow()
		plain = append(plain, between()...)[:len(plain)+d.next(7)]
		rows := read(t, append(slices.Clone(plain), row(99, 9, 9), row(98, 8, 8))...)
		before := rowTexts(rows)
		given := rows[:len(plain)]
		a, _ := lia.Solve(given, enough)
		b, _ := lia.Solve(given, enough)
		first := told(a)
		spoil(&a.Cert)
		for i := range a.Values {
			a.Values[i] = arith.From(1234)
		}
		_ = append(a.Values, arith.From(5))
		if told(b) != first {
			t.Fatalf("%s became %s", first, told(b))
		}
		lia.Check(given, b.Cert)
		lia.Uses(b.Cert, 5)
		if c, _ := lia.Solve(given, enough); told(c) != first || told(b) != first {
			t.Fatalf("%s became %s", first, told(c))
		}
		if !slices.Equal(rowTexts(rows), before) {
			t.Fatalf("%v became %v", before, rowTexts(rows))
		}
		for i := range rows {
			rows[i] = linear.Row{Most: arith.From(-9)}
		}
		if c, _ := lia.Solve(read(t, plain...), enough); told(c) != first || told(b) != first {
			t.Fatalf("%s became %s, or %s", first, told(b), told(c))
		}
	}
}

// P2: Check and Uses change neither the rows nor the tree, nor their spare room, refused or not; what Uses answers is new.
func TestTreesStay(t *testing.T) {
	rows := append(strip(t), read(t, row(5, 7, 3), row(6, 7, 3))...)
	before := rowTexts(rows)
	spare := []api.Branch{low(), high(), leafOf(8, "8")}
	for _, kids := range [][]api.Branch{spare[:2], spare[:1], spare} {
		tree := splitOf(0, "0", kids...)
		text := treeText(tree)
		first := lia.Check(rows[:4], tree)
		if lia.Check(rows[:4], tree) != first || treeText(tree) != text || treeText(spare[2]) != treeText(leafOf(8, "8")) {
			t.Errorf("%s became %s", text, treeText(tree))
		}
		list := lia.Uses(tree, 9)
		list[0] = 99
		_ = append(list[:1], 98)
		if again := lia.Uses(tree, 9); again[0] == 99 || treeText(tree) != text {
			t.Errorf("Uses became %v of %s", again, treeText(tree))
		}
	}
	if !slices.Equal(rowTexts(rows), before) {
		t.Errorf("%v became %v", before, rowTexts(rows))
	}
}

// P2, rule 3: refused calls change no later answer.
func TestRefusedCallsLeaveNothing(t *testing.T) {
	rows := read(t, between()...)
	a, err := lia.Solve(rows, enough)
	if err != api.OK {
		t.Fatal(err)
	}
	first := told(a)
	lia.Solve(append(slices.Clone(rows), resty(t, 1, 0, 1)), enough)
	lia.Solve(slices.Repeat(rows, api.MaxRows), enough)
	lia.Check(rows, splitOf(-1, "0"))
	if b, _ := lia.Solve(rows, enough); told(b) != first || lia.Check(rows, a.Cert) != api.OK {
		t.Errorf("%s became %s", first, told(b))
	}
}

// P1: odd numbers don't make anything panic, whatever the rows and trees.
func TestNothingPanics(t *testing.T) {
	odd := []int{math.MinInt, math.MaxInt, -1, 0, 1, 2, api.MaxRows, api.MaxVars}
	d := dice(37)
	for range 40 {
		rows := read(t, d.bigRows()...)
		for _, n := range []int{math.MinInt, -1, 0, 1, 2, 50} {
			lia.Solve(rows, n)
			lia.Solve(append(slices.Clone(rows), resty(t, n, 1, 2)), n)
			lia.Solve([]linear.Row{{}, {}}, n)
			lia.Solve(nil, n)
		}
		for _, n := range odd {
			for _, m := range odd {
				tree := api.Branch{Var: n, Split: strconv.Itoa(m), Parts: []api.Part{{Row: m}}, Kids: []api.Branch{leafOf(n, "1", m, "2/3"), {Leaf: true}}}
				lia.Check(rows, tree)
				lia.Check(append(slices.Clone(rows), resty(t, 3, 1, 2)), tree)
				lia.Check(nil, tree)
				lia.Check(nil, api.Branch{})
				lia.Uses(tree, n)
				lia.Uses(api.Branch{}, m)
			}
		}
	}
}
