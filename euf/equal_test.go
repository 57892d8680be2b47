package euf_test

import (
	"math"
	"testing"

	"surety/api"
	"surety/euf"
)

func wantNoEquation(t *testing.T, g *euf.Graph, a, b int, want api.Errno) {
	t.Helper()
	count := g.Equations()
	if n, err := g.Equal(a, b); n != 0 || err != want || g.Equations() != count {
		t.Errorf("Equal(%d, %d): %d, error %d, %d equations; want error %d, %d equations", a, b, n, err, g.Equations(), want, count)
	}
}

// P5.2: numbers from 0 on; a node with itself and the same equation again count too.
func TestEqual(t *testing.T) {
	g := euf.New()
	nodes(t, g, 4)
	equals(t, g, [2]int{1, 1}, [2]int{0, 2}, [2]int{0, 2}, [2]int{2, 0}, [2]int{3, 3})
	if g.Equations() != 5 {
		t.Errorf("%d equations", g.Equations())
	}
	wantClasses(t, g, []int{0, 2}, []int{1}, []int{3})
}

// P5.2: nodes that there aren't, at each place.
func TestEqualRefuses(t *testing.T) {
	wantNoEquation(t, euf.New(), 0, 0, api.ErrNode)
	g := euf.New()
	nodes(t, g, 3)
	equal(t, g, 0, 1)
	for _, wrong := range []int{-1, 3, api.MaxNodes, math.MaxInt, math.MinInt} {
		wantNoEquation(t, g, wrong, 0, api.ErrNode)
		wantNoEquation(t, g, 0, wrong, api.ErrNode)
		wantNoEquation(t, g, wrong, wrong, api.ErrNode)
	}
	if equal(t, g, 1, 2) != 1 {
		t.Error("a refused equation took a number")
	}
	wantClasses(t, g, []int{0, 1, 2})
}

// P5.2: MaxNodes equations and no more, till some are taken back; ErrNode comes first.
func TestMaxEquations(t *testing.T) {
	g := full(t)
	for n := range api.MaxNodes {
		equal(t, g, n, (n+1)%(api.MaxNodes/2))
	}
	wantNoEquation(t, g, 0, 1, api.ErrLong)
	wantNoEquation(t, g, 0, 0, api.ErrLong)
	wantNoEquation(t, g, 0, api.MaxNodes, api.ErrNode)
	wantNoEquation(t, g, -1, 0, api.ErrNode)
	if got := taken(g); len(got) != 1 || len(got[0]) != api.MaxNodes {
		t.Errorf("%d classes", len(got))
	}
	wantFind(t, g, api.MaxNodes-1, 0)
	if g.Back(api.MaxNodes+1) != api.ErrRange {
		t.Error("Back above the number of equations")
	}
	back(t, g, api.MaxNodes)
	wantNoEquation(t, g, 0, 1, api.ErrLong)
	back(t, g, api.MaxNodes-1)
	if equal(t, g, 1, 1) != api.MaxNodes-1 {
		t.Error("the last equation's number")
	}
	wantNoEquation(t, g, 0, 1, api.ErrLong)
}

// P5.2: to all numbers that there are, and behind each the equations anew.
func TestBack(t *testing.T) {
	for n := range 5 {
		g := euf.New()
		b := &book{}
		for _, fun := range []string{"a", "b", "c", "d"} {
			node(t, g, fun)
			b.nodes = append(b.nodes, api.Node{Fun: fun})
		}
		for arg := range 4 {
			node(t, g, "f", arg)
			b.nodes = append(b.nodes, api.Node{Fun: "f", Args: []int{arg}})
		}
		all := [][2]int{{0, 1}, {2, 3}, {5, 2}, {7, 7}}
		for range 3 {
			equals(t, g, all[len(b.equations):]...)
			b.equations = all
			b.wantHeld(t, g)
			back(t, g, n)
			b.equations = all[:n]
			b.wantHeld(t, g)
		}
		// others than those that were taken back, and without a question between
		equal(t, g, 0, 3)
		back(t, g, n)
		equal(t, g, 4, 0)
		b.equations = append(all[:n:n], [2]int{4, 0})
		b.wantHeld(t, g)
	}
}

// P5.2: wrong numbers leave all as it is.
func TestBackRefuses(t *testing.T) {
	for _, n := range []int{-1, 1, math.MaxInt, math.MinInt} {
		if err := euf.New().Back(n); err != api.ErrRange {
			t.Errorf("Back(%d) of no equation: error %d", n, err)
		}
	}
	g := euf.New()
	nodes(t, g, 4)
	equals(t, g, [2]int{0, 1}, [2]int{2, 3})
	for _, n := range []int{-1, 3, 4, math.MaxInt, math.MinInt} {
		if err := g.Back(n); err != api.ErrRange || g.Equations() != 2 {
			t.Errorf("Back(%d): error %d, %d equations", n, err, g.Equations())
		}
	}
	wantClasses(t, g, []int{0, 1}, []int{2, 3})
	back(t, g, 1)
	if err := g.Back(2); err != api.ErrRange {
		t.Errorf("Back(2) of one equation: error %d", err)
	}
	wantClasses(t, g, []int{0, 1}, []int{2}, []int{3})
}

// P5.2: nodes that were made behind equations stay when these are taken back, and what the others say of them too.
func TestNodesStay(t *testing.T) {
	g := euf.New()
	nodes(t, g, 3)
	equal(t, g, 0, 1)
	equal(t, g, 1, 2)
	for n := range 3 {
		node(t, g, "f", n)
	}
	deep := node(t, g, "f", 5)
	wantClasses(t, g, []int{0, 1, 2}, []int{3, 4, 5}, []int{6})
	equal(t, g, 5, 2)
	wantClasses(t, g, []int{0, 1, 2, 3, 4, 5, 6})
	back(t, g, 1)
	wantClasses(t, g, []int{0, 1}, []int{2}, []int{3, 4}, []int{5}, []int{6})
	wantThere(t, g, 5, "f", 2)
	wantThere(t, g, deep, "f", 5)
	wantExplained(t, g, 3, 4, 0)
	back(t, g, 0)
	wantClasses(t, g, []int{0}, []int{1}, []int{2}, []int{3}, []int{4}, []int{5}, []int{6})
	wantAt(t, g, deep, "f", 5)
}

// P5.2: taking back one by one from the most that there may be.
func TestBackFromMax(t *testing.T) {
	g := full(t)
	half := api.MaxNodes / 2
	for range 2 {
		for n := range half - 1 {
			equal(t, g, n, n+1)
		}
		for range half + 1 {
			equal(t, g, 0, half-1)
		}
		wantSame(t, g, half, api.MaxNodes-1, true)
		for n := api.MaxNodes; n >= 0; n-- {
			back(t, g, n)
			if n%1024 == 0 && n < half {
				wantSame(t, g, half, half+n, true)
				wantSame(t, g, half, half+n+1, false)
			}
		}
	}
}
