package euf_test

import (
	"math"
	"slices"
	"testing"

	"surety/api"
	"surety/euf"
)

// The chapter's example.
func TestExample(t *testing.T) {
	g := euf.New()
	a := node(t, g, "a")
	f1 := node(t, g, "f", a)
	f2 := node(t, g, "f", f1)
	f3 := node(t, g, "f", f2)
	equal(t, g, f2, a)
	wantClasses(t, g, []int{a, f2}, []int{f1, f3})
	equal(t, g, f3, a)
	wantSame(t, g, f1, a, true)
	wantClasses(t, g, []int{a, f1, f2, f3})
	wantExplained(t, g, f1, a, 0, 1)
}

// P5.3: each of the ways in which nodes are the same.
func TestSame(t *testing.T) {
	g := euf.New()
	nodes(t, g, 5)
	wantSame(t, g, 3, 3, true)
	wantSame(t, g, 3, 1, false)
	equal(t, g, 3, 1)
	wantSame(t, g, 3, 1, true)
	wantSame(t, g, 1, 3, true)
	equal(t, g, 4, 3)
	wantSame(t, g, 1, 4, true)
	wantSame(t, g, 0, 4, false)
	f := node(t, g, "f", 1, 0)
	h := node(t, g, "f", 4, 0)
	wantSame(t, g, f, h, true)
	wantSame(t, g, f, node(t, g, "f", 0, 4), false)
	wantSame(t, g, f, node(t, g, "f", 1, 2), false)
	wantSame(t, g, f, node(t, g, "h", 1, 0), false)
	wantSame(t, g, f, node(t, g, "f", 1), false)
	wantSame(t, g, f, node(t, g, "f", 1, 0, 0), false)
	wantSame(t, g, f, node(t, g, "f"), false)
}

// P5.3: one function with different numbers of arguments is like several: what is the same of one says nothing of the others.
func TestNumbersOfArguments(t *testing.T) {
	g := euf.New()
	nodes(t, g, 3)
	f0, h0 := node(t, g, "f"), node(t, g, "h")
	f1, h1 := node(t, g, "f", 0), node(t, g, "h", 1)
	f2, h2 := node(t, g, "f", 0, 2), node(t, g, "h", 1, 2)
	equals(t, g, [2]int{f0, h0}, [2]int{f1, h1}, [2]int{0, 1})
	wantSame(t, g, f2, h2, false)
	wantSame(t, g, f1, f0, false)
	other := node(t, g, "f", 1, 2)
	wantSame(t, g, f2, other, true)
	equal(t, g, f1, 2)
	wantSame(t, g, f2, f1, false)
	wantSame(t, g, node(t, g, "f", f1), node(t, g, "f", h1), true)
	wantSame(t, g, node(t, g, "f", f1, f1), node(t, g, "f", 2, h1), true)
}

// P5.3: names that are no UTF-8, and none at all.
func TestNames(t *testing.T) {
	g := euf.New()
	nodes(t, g, 2)
	names := []string{"", "\xff", "\xff\xff", "\xc3", "�", "\x00"}
	for _, fun := range names {
		node(t, g, fun, 0)
		node(t, g, fun, 1)
	}
	equal(t, g, 0, 1)
	want := [][]int{{0, 1}}
	for i := range names {
		want = append(want, []int{2 + 2*i, 3 + 2*i})
	}
	wantClasses(t, g, want...)
}

// P5.3: an argument that stands twice.
func TestArgumentTwice(t *testing.T) {
	g := euf.New()
	nodes(t, g, 2)
	aa, ab, ba, bb := node(t, g, "f", 0, 0), node(t, g, "f", 0, 1), node(t, g, "f", 1, 0), node(t, g, "f", 1, 1)
	aaa, aab := node(t, g, "f", aa, aa), node(t, g, "f", aa, ab)
	equal(t, g, aa, 0)
	wantClasses(t, g, []int{0, aa, aaa}, []int{1}, []int{ab}, []int{ba}, []int{bb}, []int{aab})
	equal(t, g, ab, 1)
	wantClasses(t, g, []int{0, aa, aaa}, []int{1, ab, aab}, []int{ba}, []int{bb})
	equal(t, g, 0, 1)
	wantClasses(t, g, []int{0, 1, aa, ab, ba, bb, aaa, aab})
}

// P5.3: nodes that there aren't.
func TestAskedOfNoNode(t *testing.T) {
	g := euf.New()
	for range 3 {
		for _, wrong := range []int{-1, g.Len(), api.MaxNodes, math.MaxInt, math.MinInt} {
			if n, err := g.Find(wrong); n != 0 || err != api.ErrNode {
				t.Errorf("Find(%d): %d, error %d", wrong, n, err)
			}
			for _, pair := range [][2]int{{wrong, 0}, {0, wrong}, {wrong, wrong}} {
				if is, err := g.Same(pair[0], pair[1]); is || err != api.ErrNode {
					t.Errorf("Same(%v): %v, error %d", pair, is, err)
				}
				if list, err := g.Explain(pair[0], pair[1]); len(list) != 0 || err != api.ErrNode {
					t.Errorf("Explain(%v): %v, error %d", pair, list, err)
				}
			}
		}
		node(t, g, "f", nodesOf(g)...)
		equal(t, g, 0, 0)
	}
}

// nodesOf: all numbers of nodes.
func nodesOf(g *euf.Graph) []int {
	var out []int
	for n := range g.Len() {
		out = append(out, n)
	}
	return out
}

// P5.3: Classes stops when it is told to, and begins anew when it is ranged over again.
func TestClassesStop(t *testing.T) {
	g := euf.New()
	nodes(t, g, 6)
	equals(t, g, [2]int{5, 2}, [2]int{0, 3})
	want := [][]int{{0, 3}, {1}, {2, 5}, {4}}
	seq := g.Classes()
	for stop := 1; stop <= len(want); stop++ {
		var got [][]int
		seq(func(class []int) bool {
			got = append(got, class)
			return len(got) < stop
		})
		if !slices.EqualFunc(got, want[:stop], slices.Equal) {
			t.Errorf("told to stop behind %d: %v", stop, got)
		}
	}
	for class := range seq {
		if !slices.Equal(class, want[0]) {
			t.Errorf("the first class: %v", class)
		}
		break
	}
	wantClasses(t, g, want...)
}

// P5.3, rule 4: Classes gives out what was when it was called, whatever is said later on.
func TestClassesAsTheyWere(t *testing.T) {
	g := euf.New()
	nodes(t, g, 4)
	equal(t, g, 0, 2)
	want := [][]int{{0, 2}, {1}, {3}}
	seq := g.Classes()
	var got [][]int
	for class := range seq {
		got = append(got, class)
		equal(t, g, 1, 3)
		node(t, g, "f", len(got))
		wantSame(t, g, 1, 3, true)
	}
	back(t, g, 0)
	var again [][]int
	for class := range seq {
		again = append(again, class)
	}
	if !slices.EqualFunc(got, want, slices.Equal) || !slices.EqualFunc(again, want, slices.Equal) {
		t.Errorf("Classes: %v, then %v; want %v", got, again, want)
	}
}

// P5.3: functions within one another, as deep as may be: f so many times is a, for two numbers whose greatest common divisor is 3.
func TestDeep(t *testing.T) {
	g := euf.New()
	at := node(t, g, "a")
	for range api.MaxNodes - 1 {
		at = node(t, g, "f", at)
	}
	equal(t, g, 9999, 0)
	wantFind(t, g, at, (api.MaxNodes-1)%9999)
	equal(t, g, 0, 15)
	for _, n := range []int{0, 1, 2, 3, 4, 5, 300, 10000, api.MaxNodes - 1} {
		wantFind(t, g, n, n%3)
	}
	wantExplained(t, g, 3, 0, 0, 1)
	if !slices.Contains(explained(t, g, 15, 30), 1) {
		t.Error("Explain(15, 30) without the second equation")
	}
	if got := taken(g); len(got) != 3 {
		t.Errorf("%d classes", len(got))
	}
	back(t, g, 1)
	wantSame(t, g, 0, 15, false)
	wantExplained(t, g, 5, 10004, 0)
}

// P5.3: nodes with very many arguments, which become the same one by one.
func TestWide(t *testing.T) {
	const width, many = 4000, 40
	g := euf.New()
	nodes(t, g, width)
	for shift := range many {
		args := make([]int, width)
		for i := range args {
			args[i] = (i + shift) % width
		}
		node(t, g, "f", args...)
	}
	first, last := width, width+many-1
	for n := 1; n < width; n++ {
		if n%500 == 0 {
			wantSame(t, g, first, last, false)
		}
		equal(t, g, n-1, n)
	}
	wantSame(t, g, first, last, true)
	if list := explained(t, g, first, last); len(list) != width-1 {
		t.Errorf("Explain: %d equations of %d", len(list), width-1)
	}
	back(t, g, width-2)
	wantApart(t, g, first, last)
}
