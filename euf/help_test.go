package euf_test

import (
	"slices"
	"strconv"
	"testing"

	"surety/api"
	"surety/euf"
)

// The tests hold the package against closing the equations by the chapter's own words; they know of it only what its exported calls tell.

// dice is a row of numbers that is always the same.
type dice uint64

func (d *dice) next(below int) int {
	*d = *d*6364136223846793005 + 1442695040888963407
	return int(uint64(*d)>>33) % below
}

// book is what was said to a graph.
type book struct {
	nodes     []api.Node
	equations [][2]int
}

// find: the number of a node, or below 0.
func (b *book) find(fun string, args []int) int {
	return slices.IndexFunc(b.nodes, func(n api.Node) bool { return n.Fun == fun && slices.Equal(n.Args, args) })
}

// table tells of each two nodes whether they are the same.
type table [][]bool

// add: two nodes are the same; whether that is new.
func (same table) add(a, b int) bool {
	isNew := !same[a][b]
	same[a][b] = true
	return isNew
}

// alike: are two nodes of one function, with as many arguments that are the same?
func (b *book) alike(same table, m, n int) bool {
	x, y := b.nodes[m], b.nodes[n]
	if x.Fun != y.Fun || len(x.Args) != len(y.Args) {
		return false
	}
	for i := range x.Args {
		if !same[x.Args[i]][y.Args[i]] {
			return false
		}
	}
	return true
}

// closed: step by step, till nothing follows any more.
func (b *book) closed() table {
	same := make(table, len(b.nodes))
	for n := range same {
		same[n] = make([]bool, len(b.nodes))
		same[n][n] = true
	}
	for _, e := range b.equations {
		same[e[0]][e[1]] = true
	}
	for more := true; more; {
		more = false
		for m := range same {
			for n := range same {
				if same[m][n] && same.add(n, m) || b.alike(same, m, n) && same.add(m, n) {
					more = true
				}
				for o := range same {
					if same[m][n] && same[n][o] && same.add(m, o) {
						more = true
					}
				}
			}
		}
	}
	return same
}

// classes: as Classes should give them out.
func (same table) classes() [][]int {
	var out [][]int
	for n := range same {
		if slices.Index(same[n], true) < n {
			continue
		}
		var class []int
		for m, is := range same[n] {
			if is {
				class = append(class, m)
			}
		}
		out = append(out, class)
	}
	return out
}

// node: a new one, which should have the next number.
func node(t *testing.T, g *euf.Graph, fun string, args ...int) int {
	t.Helper()
	want := g.Len()
	n, err := g.Node(fun, args...)
	if err != api.OK || n != want || g.Len() != want+1 {
		t.Fatalf("Node(%q, %v): %d, error %d, then %d nodes; want %d", fun, args, n, err, g.Len(), want)
	}
	return n
}

// nodes: some without arguments.
func nodes(t *testing.T, g *euf.Graph, count int) {
	t.Helper()
	for range count {
		node(t, g, "c"+strconv.Itoa(g.Len()))
	}
}

// equal: an equation, which should have the next number.
func equal(t *testing.T, g *euf.Graph, a, b int) int {
	t.Helper()
	want := g.Equations()
	n, err := g.Equal(a, b)
	if err != api.OK || n != want || g.Equations() != want+1 {
		t.Fatalf("Equal(%d, %d): %d, error %d, then %d equations; want %d", a, b, n, err, g.Equations(), want)
	}
	return n
}

// equals: pairs of nodes.
func equals(t *testing.T, g *euf.Graph, pairs ...[2]int) {
	t.Helper()
	for _, p := range pairs {
		equal(t, g, p[0], p[1])
	}
}

func back(t *testing.T, g *euf.Graph, n int) {
	t.Helper()
	if err := g.Back(n); err != api.OK || g.Equations() != n {
		t.Fatalf("Back(%d): error %d, then %d equations", n, err, g.Equations())
	}
}

func wantSame(t *testing.T, g *euf.Graph, a, b int, want bool) {
	t.Helper()
	if is, err := g.Same(a, b); is != want || err != api.OK {
		t.Fatalf("Same(%d, %d): %v, error %d; want %v", a, b, is, err, want)
	}
}

func wantFind(t *testing.T, g *euf.Graph, a, want int) {
	t.Helper()
	if n, err := g.Find(a); n != want || err != api.OK {
		t.Fatalf("Find(%d): %d, error %d; want %d", a, n, err, want)
	}
}

// taken: all that Classes gives out.
func taken(g *euf.Graph) [][]int {
	var out [][]int
	for class := range g.Classes() {
		out = append(out, class)
	}
	return out
}

func wantClasses(t *testing.T, g *euf.Graph, want ...[]int) {
	t.Helper()
	if got := taken(g); !slices.EqualFunc(got, want, slices.Equal) {
		t.Fatalf("Classes: %v; want %v", got, want)
	}
}

// explained: what Explain answers; rising, each once, of equations that there are.
func explained(t *testing.T, g *euf.Graph, a, b int) []int {
	t.Helper()
	list, err := g.Explain(a, b)
	if err != api.OK {
		t.Fatalf("Explain(%d, %d): error %d", a, b, err)
	}
	last := -1
	for _, n := range list {
		if n <= last || n >= g.Equations() {
			t.Fatalf("Explain(%d, %d): %v of %d equations", a, b, list, g.Equations())
		}
		last = n
	}
	return list
}

func wantExplained(t *testing.T, g *euf.Graph, a, b int, want ...int) {
	t.Helper()
	if got := explained(t, g, a, b); !slices.Equal(got, want) {
		t.Fatalf("Explain(%d, %d): %v; want %v", a, b, got, want)
	}
}

func wantApart(t *testing.T, g *euf.Graph, a, b int) {
	t.Helper()
	if list, err := g.Explain(a, b); err != api.ErrApart || len(list) != 0 {
		t.Fatalf("Explain(%d, %d): %v, error %d; want ErrApart", a, b, list, err)
	}
}

// remade: the same nodes in a new graph, with some equations alone.
func (b *book) remade(t *testing.T, numbers []int) *euf.Graph {
	t.Helper()
	g := euf.New()
	for _, n := range b.nodes {
		node(t, g, n.Fun, n.Args...)
	}
	for _, n := range numbers {
		equal(t, g, b.equations[n][0], b.equations[n][1])
	}
	return g
}

// wantEnough: the equations that Explain tells are enough, for the chapter's words and for a new graph.
func (b *book) wantEnough(t *testing.T, g *euf.Graph, x, y int) {
	t.Helper()
	list := explained(t, g, x, y)
	less := book{nodes: b.nodes}
	for _, n := range list {
		less.equations = append(less.equations, b.equations[n])
	}
	if !less.closed()[x][y] {
		t.Fatalf("Explain(%d, %d): %v of %v; %v isn't enough", x, y, b.nodes, b.equations, list)
	}
	wantSame(t, b.remade(t, list), x, y, true)
}

// wantHeld: a graph tells what the book says, of all nodes.
func (b *book) wantHeld(t *testing.T, g *euf.Graph) {
	t.Helper()
	if g.Len() != len(b.nodes) || g.Equations() != len(b.equations) {
		t.Fatalf("%d nodes, %d equations; want %v, %v", g.Len(), g.Equations(), b.nodes, b.equations)
	}
	same := b.closed()
	for x := range same {
		wantFind(t, g, x, slices.Index(same[x], true))
		for y := range same {
			if is, err := g.Same(x, y); is != same[x][y] || err != api.OK {
				t.Fatalf("Same(%d, %d): %v, error %d, of %v with %v", x, y, is, err, b.nodes, b.equations)
			}
		}
	}
	wantClasses(t, g, same.classes()...)
	for x := range same {
		for y := range same {
			if same[x][y] {
				b.wantEnough(t, g, x, y)
			} else {
				wantApart(t, g, x, y)
			}
		}
	}
}
