package euf_test

import (
	"slices"
	"testing"

	"surety/api"
	"surety/euf"
)

// P5.4: no equation is needed for a node and itself.
func TestExplainItself(t *testing.T) {
	g := euf.New()
	node(t, g, "a")
	node(t, g, "f", 0)
	wantExplained(t, g, 0, 0)
	equals(t, g, [2]int{0, 0}, [2]int{0, 1})
	for n := range 2 {
		wantExplained(t, g, n, n)
	}
}

// P5.4: just what is needed, where there is one way alone.
func TestExplain(t *testing.T) {
	g := euf.New()
	nodes(t, g, 8)
	equals(t, g, [2]int{6, 7}, [2]int{2, 1}, [2]int{0, 0}, [2]int{2, 3}, [2]int{0, 1}, [2]int{5, 4})
	wantExplained(t, g, 0, 1, 4)
	wantExplained(t, g, 1, 0, 4)
	wantExplained(t, g, 0, 3, 1, 3, 4)
	wantExplained(t, g, 3, 1, 1, 3)
	wantExplained(t, g, 7, 6, 0)
	wantApart(t, g, 0, 7)
	wantApart(t, g, 4, 3)
	back(t, g, 4)
	wantApart(t, g, 0, 3)
	wantExplained(t, g, 3, 1, 1, 3)
}

// P5.4: an equation that is said again is another one, of which one is enough.
func TestExplainTwice(t *testing.T) {
	g := euf.New()
	nodes(t, g, 2)
	equals(t, g, [2]int{0, 1}, [2]int{1, 0}, [2]int{0, 1})
	if list := explained(t, g, 0, 1); len(list) == 0 {
		t.Error("no equation")
	}
	back(t, g, 1)
	wantExplained(t, g, 0, 1, 0)
}

// P5.4: where only arguments are the same, some of them by their arguments.
func TestExplainArguments(t *testing.T) {
	g := euf.New()
	nodes(t, g, 6)
	f, h := node(t, g, "f", 0, 1, 2), node(t, g, "f", 3, 4, 5)
	ff, fh := node(t, g, "f", f, 0), node(t, g, "f", h, 0)
	equals(t, g, [2]int{2, 5}, [2]int{1, 0}, [2]int{0, 3}, [2]int{4, 1})
	wantExplained(t, g, f, h, 0, 2, 3)
	wantExplained(t, g, fh, ff, 0, 2, 3)
	wantExplained(t, g, 0, 4, 1, 3)
	wantApart(t, g, f, ff)
	equal(t, g, ff, 2)
	wantExplained(t, g, fh, 5, 0, 2, 3, 4)
}

// P5.4: nodes that were made behind the equations.
func TestExplainLaterNodes(t *testing.T) {
	g, b := euf.New(), &book{}
	for _, fun := range []string{"a", "b", "c"} {
		b.tell(t, g, fun, nil)
	}
	b.say(t, g, 0, 1)
	b.say(t, g, 1, 2)
	b.tell(t, g, "f", []int{0})
	b.tell(t, g, "f", []int{1})
	wantExplained(t, g, 3, 4, 0)
	b.tell(t, g, "f", []int{2})
	b.wantHeld(t, g)
	wantExplained(t, g, 3, 5, 0, 1)
	back(t, g, 1)
	wantApart(t, g, 3, 5)
	wantExplained(t, g, 3, 4, 0)
}

// P5.4: long ways of equations, each of which is asked for many times.
func TestExplainMuch(t *testing.T) {
	const long = 5000
	g := euf.New()
	nodes(t, g, long)
	for n := range long {
		node(t, g, "f", n, long-1-n)
	}
	top := node(t, g, "g", nodesOf(g)[long:]...)
	turned := nodesOf(g)[long : 2*long]
	slices.Reverse(turned)
	other := node(t, g, "g", turned...)
	for n := 1; n < long; n++ {
		equal(t, g, n, n-1)
	}
	if list := explained(t, g, top, other); len(list) != long-1 {
		t.Errorf("%d equations of %d", len(list), long-1)
	}
	for n := 0; n < long; n += 7 {
		// the first arguments need the equations below n, the second ones as many at the end
		list := explained(t, g, long, long+n)
		for i := range n {
			if _, ok := slices.BinarySearch(list, i); !ok {
				t.Fatalf("Explain(%d, %d): without %d", long, long+n, i)
			}
			if _, ok := slices.BinarySearch(list, long-2-i); !ok {
				t.Fatalf("Explain(%d, %d): without %d", long, long+n, long-2-i)
			}
		}
	}
}

// P5.4: what isn't the same, ahead of all equations and behind them.
func TestExplainApart(t *testing.T) {
	g := euf.New()
	nodes(t, g, 3)
	wantApart(t, g, 0, 1)
	equal(t, g, 0, 1)
	wantApart(t, g, 1, 2)
	if list, err := g.Explain(2, 3); err != api.ErrNode || len(list) != 0 {
		t.Errorf("Explain(2, 3): %v, error %d", list, err)
	}
}
