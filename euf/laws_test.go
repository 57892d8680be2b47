package euf_test

import (
	"slices"
	"testing"

	"surety/api"
	"surety/euf"
)

// someNode: of few functions, so that many are alike.
func (d *dice) someNode(b *book) (string, []int) {
	fun := []string{"f", "g", "", "\xff"}[d.next(4)]
	if len(b.nodes) == 0 || d.next(4) == 0 {
		return []string{"a", "b", "c", "f", ""}[d.next(5)], nil
	}
	var args []int
	for range 1 + d.next(3) {
		args = append(args, d.next(len(b.nodes)))
	}
	return fun, args
}

// tell: a node to the graph and to the book.
func (b *book) tell(t *testing.T, g *euf.Graph, fun string, args []int) {
	t.Helper()
	if n := b.find(fun, args); n >= 0 {
		wantThere(t, g, n, fun, args...)
		return
	}
	node(t, g, fun, args...)
	b.nodes = append(b.nodes, api.Node{Fun: fun, Args: args})
}

// say: an equation to the graph and to the book.
func (b *book) say(t *testing.T, g *euf.Graph, x, y int) {
	t.Helper()
	equal(t, g, x, y)
	b.equations = append(b.equations, [2]int{x, y})
}

// P5.1 to P5.4: calls in any order, held against the chapter's words.
func TestAnyCalls(t *testing.T) {
	d := dice(5)
	for range 150 {
		g, b := euf.New(), &book{}
		for range 40 {
			switch count := len(b.nodes); d.next(9) {
			case 0, 1, 2, 3:
				if count < 14 {
					fun, args := d.someNode(b)
					b.tell(t, g, fun, args)
				}
			case 4, 5, 6:
				if count > 0 {
					b.say(t, g, d.next(count), d.next(count))
				}
			case 7:
				if d.next(2) == 0 {
					n := d.next(len(b.equations) + 1)
					back(t, g, n)
					b.equations = b.equations[:n]
				}
			case 8:
				b.wantHeld(t, g)
			}
		}
		b.wantHeld(t, g)
		for n, want := range b.nodes {
			wantAt(t, g, n, want.Fun, want.Args...)
		}
	}
}

// someBook: nodes and equations.
func (d *dice) someBook(t *testing.T, nodes, equations int) *book {
	g, b := euf.New(), &book{}
	for len(b.nodes) < nodes {
		fun, args := d.someNode(b)
		b.tell(t, g, fun, args)
	}
	for range equations {
		b.say(t, g, d.next(nodes), d.next(nodes))
	}
	return b
}

// mixed: the numbers below count in some order.
func (d *dice) mixed(count int) []int {
	out := make([]int, count)
	for i := range out {
		j := d.next(i + 1)
		out[i] = out[j]
		out[j] = i
	}
	return out
}

// P5.5: the order of equations changes nothing that is the same.
func TestOrder(t *testing.T) {
	d := dice(7)
	for range 200 {
		b := d.someBook(t, 25, 10)
		plain := b.remade(t, []int{0, 1, 2, 3, 4, 5, 6, 7, 8, 9})
		want := taken(plain)
		for range 5 {
			order := d.mixed(10)
			g := b.remade(t, order)
			wantClasses(t, g, want...)
			for _, class := range want {
				for _, n := range class {
					wantFind(t, g, n, class[0])
					for _, e := range explained(t, g, class[0], n) {
						if order[e] >= len(b.equations) {
							t.Fatalf("no equation %d", e)
						}
					}
				}
			}
		}
	}
}

// values: of nodes, where each function is a table that the dice fill when a line of it is first needed.
func (d *dice) values(b *book, below int) []int {
	type line struct {
		fun  string
		args [3]int
		many int
	}
	lines := map[line]int{}
	out := make([]int, len(b.nodes))
	for i, n := range b.nodes {
		l := line{fun: n.Fun, many: len(n.Args)}
		for j, a := range n.Args {
			l.args[j] = out[a]
		}
		v, ok := lines[l]
		if !ok {
			v = d.next(below)
			lines[l] = v
		}
		out[i] = v
	}
	return out
}

// P5.6: functions at will, and only equations that hold for them: then nodes that are the same have the same value.
func TestValues(t *testing.T) {
	d := dice(11)
	met := 0
	for range 1500 {
		b := d.someBook(t, 20, 0)
		values := d.values(b, 2+d.next(3))
		g := b.remade(t, nil)
		for range 30 {
			if x, y := d.next(20), d.next(20); values[x] == values[y] {
				equal(t, g, x, y)
			}
		}
		for _, class := range taken(g) {
			for _, n := range class {
				if values[n] != values[class[0]] {
					t.Fatalf("%d and %d are the same, but have the values %d and %d", class[0], n, values[class[0]], values[n])
				}
				if n != class[0] {
					met++
				}
			}
		}
	}
	if met < 1000 {
		t.Errorf("only %d nodes were the same as others", met)
	}
}

// P5.4 and P5.6: the same of greater graphs, with equations taken back; what Explain tells is enough in a new graph.
func TestGreaterGraphs(t *testing.T) {
	d := dice(13)
	for range 12 {
		b := d.someBook(t, 400, 150)
		g := b.remade(t, nil)
		for _, e := range b.equations {
			equal(t, g, e[0], e[1])
			if d.next(20) == 0 {
				wantFind(t, g, 0, 0)
			}
		}
		whole := taken(g)
		for range 10 {
			n := d.next(len(b.equations) + 1)
			back(t, g, n)
			numbers := make([]int, n)
			for i := range numbers {
				numbers[i] = i
			}
			wantClasses(t, g, taken(b.remade(t, numbers))...)
			equals(t, g, b.equations[n:]...)
			wantClasses(t, g, whole...)
		}
		for _, class := range whole {
			if len(class) < 2 {
				continue
			}
			x, y := class[d.next(len(class))], class[d.next(len(class))]
			wantSame(t, b.remade(t, explained(t, g, x, y)), x, y, true)
		}
		if slices.IndexFunc(whole, func(c []int) bool { return len(c) > 5 }) < 0 {
			t.Error("no class of more than five nodes")
		}
	}
}
