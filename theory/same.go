package theory

import (
	"strconv"
	"strings"

	"surety/api"
	"surety/euf"
)

// web is a graph of the unknowns of a table, and of the sums that its equations name. A sum is a node of which nothing is known; one that no equation names has none, as it is the same as itself alone: so the graph has room for all.
type web struct {
	graph    *euf.Graph
	unknowns []int       // nodes
	sums     map[int]int // nodes, by the sums' numbers
	numbers  []numbered
}

// numbered is the node of a sum that is a number.
type numbered struct {
	node int
	text string
}

// Alike: with equations between terms, are two others the same by them alone?
func Alike(equal [][2]api.Form, a, b api.Form) (bool, api.Errno) {
	if len(equal) > api.MaxRows {
		return false, api.ErrLong
	}
	t := newTable()
	equations, err := sidesOf(t, equal)
	if err != api.OK {
		return false, err
	}
	for _, f := range []api.Form{a, b} {
		if err := IsTerm(f); err != api.OK {
			return false, err
		}
	}
	two, err := t.sides(a, b)
	if err == api.ErrVar {
		return false, api.ErrLong
	}
	if err != api.OK {
		return false, err
	}
	w, err := newWeb(t, equations)
	if err != api.OK {
		return false, err
	}
	return w.isSame(two[0], two[1]), api.OK
}

// sidesOf: the sums of equations.
func sidesOf(t *table, equal [][2]api.Form) ([]pair, api.Errno) {
	var list []pair
	for _, e := range equal {
		if err := Sound(api.Form{Kind: api.FEq, Args: e[:]}); err != api.OK {
			return nil, err
		}
		p, err := t.sides(e[0], e[1])
		if err != api.OK {
			return nil, err
		}
		list = append(list, p)
	}
	return list, api.OK
}

// newWeb: of all unknowns of a table, with equations, numbered as they come.
func newWeb(t *table, equations []pair) (*web, api.Errno) {
	w := &web{graph: euf.New(), sums: map[int]int{}}
	for _, e := range equations {
		for _, s := range e {
			if err := w.name(s); err != api.OK {
				return nil, err
			}
		}
	}
	for _, u := range t.unknowns {
		if err := w.add(u); err != api.OK {
			return nil, err
		}
	}
	for _, e := range equations {
		left, _ := w.nodeOf(e[0])
		right, _ := w.nodeOf(e[1])
		if _, err := w.graph.Equal(left, right); err != api.OK {
			return nil, err
		}
	}
	return w, api.OK
}

// name: a sum that an equation names, unless it is an unknown alone.
func (w *web) name(s sum) api.Errno {
	if _, ok := s.lone(); ok {
		return api.OK
	}
	if _, ok := w.sums[s.number]; ok {
		return api.OK
	}
	node, err := w.graph.Node("s" + strconv.Itoa(s.number))
	if err != api.OK {
		return err
	}
	w.sums[s.number] = node
	if s.term.IsNum() {
		w.numbers = append(w.numbers, numbered{node: node, text: s.term.Rest().Text()})
	}
	return api.OK
}

// add: an unknown more. Arguments without a node become part of its function's name.
func (w *web) add(u unknown) api.Errno {
	var fun strings.Builder
	var args []int
	if u.isFunction() {
		fun.WriteByte('f')
		writeMeasured(&fun, u.form.Name)
	} else {
		fun.WriteByte('v')
		fun.WriteString(u.form.Name)
	}
	for _, arg := range u.args {
		fun.WriteByte(' ')
		if node, ok := w.nodeOf(arg); ok {
			args = append(args, node)
		} else {
			fun.WriteString(strconv.Itoa(arg.number))
		}
	}
	node, err := w.graph.Node(fun.String(), args...)
	if err != api.OK {
		return err
	}
	w.unknowns = append(w.unknowns, node)
	return api.OK
}

// nodeOf: a sum's, if it has one.
func (w *web) nodeOf(s sum) (int, bool) {
	if at, ok := s.lone(); ok {
		return w.unknowns[at], true
	}
	node, ok := w.sums[s.number]
	return node, ok
}

// isSame: are two sums the same, as they are alike, or by the equations?
func (w *web) isSame(a, b sum) bool {
	if a.number == b.number {
		return true
	}
	left, hasLeft := w.nodeOf(a)
	right, hasRight := w.nodeOf(b)
	if !hasLeft || !hasRight {
		return false
	}
	same, err := w.graph.Same(left, right)
	return err == api.OK && same
}

// why: equations by which two sums are the same, which they are.
func (w *web) why(a, b sum) []int {
	if a.number == b.number {
		return nil
	}
	left, _ := w.nodeOf(a)
	right, _ := w.nodeOf(b)
	list, _ := w.graph.Explain(left, right)
	return list
}

// leasts: of each node the least one that is the same.
func (w *web) leasts() []int {
	list := make([]int, w.graph.Len())
	for class := range w.graph.Classes() {
		for _, node := range class {
			list[node] = class[0]
		}
	}
	return list
}

// clash: two numbers that would be the same, and true, if there are such.
func (w *web) clash() ([2]numbered, bool) {
	least := w.leasts()
	first := map[int]int{} // places among the numbers, by least nodes
	for i, n := range w.numbers {
		at, ok := first[least[n.node]]
		if ok {
			return [2]numbered{w.numbers[at], n}, true
		}
		first[least[n.node]] = i
	}
	return [2]numbered{}, false
}

// twins: unknowns that are the same as their arguments are, each with the first of those that it is the same as.
func (w *web) twins() [][2]int {
	var list [][2]int
	least := w.leasts()
	first := map[string]int{} // unknowns, by what they are made of
	for u, node := range w.unknowns {
		n, _ := w.graph.At(node)
		if len(n.Args) == 0 {
			continue
		}
		var key strings.Builder
		writeMeasured(&key, n.Fun)
		for _, arg := range n.Args {
			key.WriteByte(' ')
			key.WriteString(strconv.Itoa(least[arg]))
		}
		at, ok := first[key.String()]
		if ok {
			list = append(list, [2]int{at, u})
		} else {
			first[key.String()] = u
		}
	}
	return list
}
