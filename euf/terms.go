package euf

// head tells functions apart: of another number of arguments it is another one.
type head struct {
	fun  string
	args int
}

// terms keeps nodes in parts, each a head or a part with one argument more. So a pair tells what a part is made of, however many arguments a node has.
type terms struct {
	heads map[head]int   // the head's part
	pairs map[[2]int]int // a part and the next argument's: the part that has it too
	parts []part
	whole []int // by node: the part that has all its arguments
}

// part is made of two others, but for a head.
type part struct {
	front, arg int
	node       int // whose part it is, if it has all arguments
}

// find: the node of that function and these arguments. What has as many arguments as its head asks for is a node, since no parts are kept but those of nodes.
func (t *terms) find(fun string, args []int) (int, bool) {
	at, ok := t.heads[head{fun: fun, args: len(args)}]
	for _, a := range args {
		if !ok {
			return 0, false
		}
		at, ok = t.pairs[[2]int{at, t.whole[a]}]
	}
	if !ok {
		return 0, false
	}
	return t.parts[at].node, true
}

// add: a node that isn't there yet; its number.
func (t *terms) add(fun string, args []int) int {
	first := head{fun: fun, args: len(args)}
	at, ok := t.heads[first]
	if !ok {
		at = t.keep(none, none)
		t.heads[first] = at
	}
	for _, a := range args {
		pair := [2]int{at, t.whole[a]}
		next, ok := t.pairs[pair]
		if !ok {
			next = t.keep(pair[0], pair[1])
			t.pairs[pair] = next
		}
		at = next
	}
	n := len(t.whole)
	t.parts[at].node = n
	t.whole = append(t.whole, at)
	return n
}

// keep: one part more; its place.
func (t *terms) keep(front, arg int) int {
	t.parts = append(t.parts, part{front: front, arg: arg, node: none})
	return len(t.parts) - 1
}
