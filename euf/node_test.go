package euf_test

import (
	"math"
	"slices"
	"testing"

	"surety/api"
	"surety/euf"
)

func wantAt(t *testing.T, g *euf.Graph, n int, fun string, args ...int) {
	t.Helper()
	if got, ok := g.At(n); !ok || got.Fun != fun || !slices.Equal(got.Args, args) {
		t.Errorf("At(%d): %q of %v, %v; want %q of %v", n, got.Fun, got.Args, ok, fun, args)
	}
}

func wantNone(t *testing.T, g *euf.Graph, n int) {
	t.Helper()
	if got, ok := g.At(n); ok || got.Fun != "" || got.Args != nil {
		t.Errorf("At(%d): %v, %v; want the zero Node and false", n, got, ok)
	}
}

// wantThere: a node that there is already keeps its number.
func wantThere(t *testing.T, g *euf.Graph, want int, fun string, args ...int) {
	t.Helper()
	count := g.Len()
	if n, err := g.Node(fun, args...); n != want || err != api.OK || g.Len() != count {
		t.Errorf("Node(%q, %v): %d, error %d, %d nodes; want %d, %d nodes", fun, args, n, err, g.Len(), want, count)
	}
}

func wantNoNode(t *testing.T, g *euf.Graph, want api.Errno, fun string, args ...int) {
	t.Helper()
	count := g.Len()
	if n, err := g.Node(fun, args...); n != 0 || err != want || g.Len() != count {
		t.Errorf("Node(%q, %v): %d, error %d, %d nodes; want error %d, %d nodes", fun, args, n, err, g.Len(), want, count)
	}
}

// P5.1: without nodes and equations.
func TestNew(t *testing.T) {
	g := euf.New()
	if g == nil || g.Len() != 0 || g.Equations() != 0 {
		t.Fatal("New: no empty graph")
	}
	wantNone(t, g, 0)
	wantClasses(t, g)
	back(t, g, 0)
	if other := euf.New(); other == g || node(t, g, "a") != 0 || other.Len() != 0 {
		t.Error("two graphs are one")
	}
}

// P5.1: numbers from 0 on, what At tells of them, and the same number when a node is asked for again.
func TestNode(t *testing.T) {
	g := euf.New()
	want := []api.Node{
		{Fun: "a"},
		{Fun: "b"},
		{Fun: "f", Args: []int{0}},
		{Fun: "f", Args: []int{1}},
		{Fun: "f", Args: []int{2}},
		{Fun: "f"},
		{Fun: "f", Args: []int{0, 1}},
		{Fun: "f", Args: []int{1, 0}},
		{Fun: "f", Args: []int{0, 0}},
		{Fun: "f", Args: []int{0, 0, 0}},
		{Fun: "g", Args: []int{0, 1}},
		{Fun: "", Args: []int{6, 6}},
		{Fun: ""},
		{Fun: "", Args: []int{12}},
		{Fun: "\xff\xfe"},
		{Fun: "\xff"},
		{Fun: "�"},
		{Fun: "\x00", Args: []int{14}},
		{Fun: "\x00\x00"},
		{Fun: "f(0)"},
		{Fun: "f,0"},
		{Fun: "F", Args: []int{0}},
	}
	for _, n := range want {
		node(t, g, n.Fun, n.Args...)
	}
	for i, n := range want {
		wantAt(t, g, i, n.Fun, n.Args...)
		wantThere(t, g, i, n.Fun, n.Args...)
	}
	for _, n := range []int{-1, len(want), len(want) + 1, math.MaxInt, math.MinInt} {
		wantNone(t, g, n)
	}
}

// P5.1: nodes are told apart by what they are made of, not by what is the same.
func TestNodesStayApart(t *testing.T) {
	g := euf.New()
	nodes(t, g, 2)
	f0 := node(t, g, "f", 0)
	equal(t, g, 0, 1)
	f1 := node(t, g, "f", 1)
	wantSame(t, g, f0, f1, true)
	wantThere(t, g, f0, "f", 0)
	wantThere(t, g, f1, "f", 1)
	wantAt(t, g, f1, "f", 1)
	ff := node(t, g, "f", f1)
	wantAt(t, g, ff, "f", f1)
}

// P5.1: an argument that is no node, wherever it stands; nothing is left of it.
func TestNodeRefuses(t *testing.T) {
	wantNoNode(t, euf.New(), api.ErrNode, "f", 0)
	g := euf.New()
	nodes(t, g, 3)
	for _, wrong := range []int{-1, 3, 4, api.MaxNodes, math.MaxInt, math.MinInt} {
		for place := range 4 {
			wantNoNode(t, g, api.ErrNode, "f", slices.Insert([]int{0, 1, 2}, place, wrong)...)
		}
		wantNoNode(t, g, api.ErrNode, "f", wrong)
		wantNoNode(t, g, api.ErrNode, "f", wrong, wrong)
	}
	if node(t, g, "f", 0, 1, 2) != 3 {
		t.Error("a refused node took a number")
	}
	wantThere(t, g, 3, "f", 0, 1, 2)
}

// full: a graph with as many nodes as may be.
func full(t *testing.T) *euf.Graph {
	t.Helper()
	g := euf.New()
	nodes(t, g, api.MaxNodes/2)
	for n := range api.MaxNodes / 2 {
		node(t, g, "f", n)
	}
	return g
}

// P5.1: MaxNodes nodes and no more; those that there are may still be asked for; ErrNode comes first.
func TestMaxNodes(t *testing.T) {
	g := full(t)
	for _, n := range []int{0, 1, api.MaxNodes/2 - 1} {
		wantThere(t, g, api.MaxNodes/2+n, "f", n)
		wantAt(t, g, api.MaxNodes/2+n, "f", n)
	}
	wantThere(t, g, 5, "c5")
	for range 2 {
		wantNoNode(t, g, api.ErrLong, "more")
		wantNoNode(t, g, api.ErrLong, "f")
		wantNoNode(t, g, api.ErrLong, "f", api.MaxNodes-1)
		wantNoNode(t, g, api.ErrLong, "f", 0, 1)
		wantNoNode(t, g, api.ErrNode, "f", api.MaxNodes)
		wantNoNode(t, g, api.ErrNode, "more", 0, -1)
	}
	wantNone(t, g, api.MaxNodes)
	wantSame(t, g, 0, api.MaxNodes-1, false)
}

// P5.1: many arguments; the last of them tells two nodes apart.
func TestManyArguments(t *testing.T) {
	g := euf.New()
	nodes(t, g, 1000)
	args := make([]int, 5000)
	for i := range args {
		args[i] = i % 1000
	}
	a := node(t, g, "f", args...)
	args[4999] = 0
	b := node(t, g, "f", args...)
	wantThere(t, g, b, "f", args...)
	wantAt(t, g, b, "f", args...)
	node(t, g, "f", args[:4999]...)
	wantSame(t, g, a, b, false)
	equal(t, g, 0, 999)
	wantSame(t, g, a, b, true)
	wantExplained(t, g, a, b, 0)
}
