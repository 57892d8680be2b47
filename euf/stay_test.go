package euf_test

import (
	"math"
	"slices"
	"testing"

	"surety/api"
	"surety/euf"
)

// P2: arguments that were handed in may be changed afterwards; Node itself leaves them, with their spare room.
func TestArgumentsAreNotKept(t *testing.T) {
	g := euf.New()
	nodes(t, g, 3)
	room := []int{0, 1, 7, 7}
	n := node(t, g, "f", room[:2]...)
	wantThere(t, g, n, "f", room[:2]...)
	wantNoNode(t, g, api.ErrNode, "f", room...)
	if !slices.Equal(room, []int{0, 1, 7, 7}) {
		t.Errorf("Node made %v of its arguments", room)
	}
	room[0], room[1] = 2, 2
	wantAt(t, g, n, "f", 0, 1)
	wantThere(t, g, n, "f", 0, 1)
	equal(t, g, 0, 1)
	wantSame(t, g, n, node(t, g, "f", 2, 2), false)
	wantSame(t, g, n, node(t, g, "f", 1, 0), true)
}

// P2: what is changed in an answer changes neither the graph nor another answer.
func TestAnswersAreNew(t *testing.T) {
	g := euf.New()
	nodes(t, g, 4)
	n := node(t, g, "f", 0, 1)
	equals(t, g, [2]int{1, 0}, [2]int{1, 3})
	first, _ := g.At(n)
	second, _ := g.At(n)
	first.Args[0], first.Args[1] = 3, 3
	_ = append(first.Args[:1], 2, 2)
	if !slices.Equal(second.Args, []int{0, 1}) {
		t.Errorf("an answer became %v", second.Args)
	}
	wantAt(t, g, n, "f", 0, 1)

	why, other := explained(t, g, 0, 3), explained(t, g, 0, 3)
	why[0], why[1] = 7, 7
	if !slices.Equal(other, []int{0, 1}) {
		t.Errorf("an answer became %v", other)
	}
	wantExplained(t, g, 0, 3, 0, 1)

	seq := g.Classes()
	want := [][]int{{0, 1, 3}, {2}, {4}}
	for range 2 {
		var got [][]int
		for class := range seq {
			got = append(got, slices.Clone(class))
			clear(class)
			_ = append(class, 9, 9, 9)
			_ = append(class[:0], 9)
		}
		if !slices.EqualFunc(got, want, slices.Equal) {
			t.Errorf("Classes: %v; want %v", got, want)
		}
	}
	wantClasses(t, g, want...)
}

// refusedCalls: all kinds of calls that a graph with a node that is apart from another one refuses.
func refusedCalls(t *testing.T, g *euf.Graph, apart [2]int) {
	t.Helper()
	count := g.Len()
	wantNoNode(t, g, api.ErrNode, "new", count)
	wantNoNode(t, g, api.ErrNode, "f", 0, -1)
	wantNoEquation(t, g, 0, count, api.ErrNode)
	for _, n := range []int{-1, g.Equations() + 1} {
		if g.Back(n) != api.ErrRange {
			t.Fatalf("Back(%d) wasn't refused", n)
		}
	}
	g.Same(0, count)
	g.Find(-1)
	g.Explain(count, 0)
	wantApart(t, g, apart[0], apart[1])
}

// P2, rule 3: a graph on which calls were refused answers as one on which they weren't made; Explain too.
func TestRefusedCallsLeaveNothing(t *testing.T) {
	d := dice(17)
	for range 60 {
		b := d.someBook(t, 30, 0)
		plain, g := euf.New(), euf.New()
		apart := [2]int{node(t, plain, "one"), node(t, plain, "two")}
		node(t, g, "one")
		node(t, g, "two")
		for _, n := range b.nodes {
			refusedCalls(t, g, apart)
			args := slices.Clone(n.Args)
			for i := range args {
				args[i] += 2
			}
			node(t, plain, n.Fun, args...)
			node(t, g, n.Fun, args...)
			for range d.next(3) {
				x, y := 2+d.next(plain.Len()-2), 2+d.next(plain.Len()-2)
				equal(t, plain, x, y)
				refusedCalls(t, g, apart)
				equal(t, g, x, y)
			}
			if d.next(8) == 0 {
				n := d.next(plain.Equations() + 1)
				back(t, plain, n)
				refusedCalls(t, g, apart)
				back(t, g, n)
			}
		}
		refusedCalls(t, g, apart)
		wantClasses(t, g, taken(plain)...)
		for _, class := range taken(plain) {
			for _, n := range class {
				wantExplained(t, g, class[0], n, explained(t, plain, class[0], n)...)
			}
		}
	}
}

// P2, rule 4: the same calls have the same answers.
func TestSameCallsSameAnswers(t *testing.T) {
	d := dice(19)
	for range 20 {
		b := d.someBook(t, 60, 40)
		all := d.mixed(40)
		one, two := b.remade(t, all), b.remade(t, all)
		for _, class := range taken(one) {
			for _, n := range class {
				wantExplained(t, two, class[0], n, explained(t, one, class[0], n)...)
			}
		}
	}
}

// P1: numbers that are no nodes don't make anything panic, whatever the graph.
func TestNothingPanics(t *testing.T) {
	odd := []int{math.MinInt, math.MaxInt, -1, 0, 1, 2, api.MaxNodes, -api.MaxNodes}
	for size := range 3 {
		g := euf.New()
		nodes(t, g, size)
		for i, a := range odd {
			g.Node("f", odd[i:]...)
			g.Node("", a)
			g.At(a)
			g.Find(a)
			for _, b := range odd {
				g.Node("f", a, b)
				g.Equal(a, b)
				g.Same(a, b)
				g.Explain(a, b)
			}
			taken(g)
			g.Back(a)
		}
	}
}
