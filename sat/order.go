package sat

const (
	leastWeight int64 = 1 << 8
	mostBusy    int64 = 1 << 60
)

// order holds variables of which the one is chosen next that had most to do with clauses found false of late. It is a heap: none is busier than the one at half its place.
type order struct {
	heap   []int
	at     []int   // by variable: its place in the heap and one more; 0: it isn't there
	busy   []int64 // by variable
	weight int64   // by how much a variable gets busier: late ones count more
}

// room: for so many variables more.
func (o *order) room(more int) {
	o.at = append(o.at, make([]int, more)...)
	o.busy = append(o.busy, make([]int64, more)...)
}

// ahead: is a to be chosen ahead of b?
func (o *order) ahead(a, b int) bool {
	if o.busy[a] != o.busy[b] {
		return o.busy[a] > o.busy[b]
	}
	return a < b
}

func (o *order) put(v, place int) {
	o.heap[place] = v
	o.at[v] = place + 1
}

func (o *order) push(v int) {
	if o.at[v] != 0 {
		return
	}
	o.heap = append(o.heap, v)
	o.rise(v, len(o.heap)-1)
}

// pop: without the first one.
func (o *order) pop() {
	last := len(o.heap) - 1
	v := o.heap[last]
	o.at[o.heap[0]] = 0
	o.heap = o.heap[:last]
	if last > 0 {
		o.sink(v)
	}
}

// rise: v from a place to where it belongs.
func (o *order) rise(v, place int) {
	for place > 0 {
		up := (place - 1) / 2
		if !o.ahead(v, o.heap[up]) {
			break
		}
		o.put(o.heap[up], place)
		place = up
	}
	o.put(v, place)
}

// sink: v from the first place to where it belongs.
func (o *order) sink(v int) {
	place := 0
	for {
		down := 2*place + 1
		if down >= len(o.heap) {
			break
		}
		if right := down + 1; right < len(o.heap) && o.ahead(o.heap[right], o.heap[down]) {
			down = right
		}
		if !o.ahead(o.heap[down], v) {
			break
		}
		o.put(o.heap[down], place)
		place = down
	}
	o.put(v, place)
}

// bump: v has had to do with a clause found false.
func (o *order) bump(v int) {
	o.busy[v] += o.weight
	if place := o.at[v]; place != 0 {
		o.rise(v, place-1)
	}
	if o.busy[v] > mostBusy {
		o.shrink()
	}
}

// shrink: all numbers, so that none overflows. What becomes equal may stand in another order than it should, which costs nothing but a choice.
func (o *order) shrink() {
	for v := range o.busy {
		o.busy[v] >>= 30
	}
	o.weight = max(o.weight>>30, leastWeight)
}

// age: what has been counted so far counts less against what comes.
func (o *order) age() { o.weight += o.weight / 16 }
