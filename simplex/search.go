package simplex

import (
	"cmp"
	"slices"

	"surety/api"
	"surety/arith"
	"surety/linear"
	"surety/ratio"
)

// none stands for a line or a part where there is none.
const none = -1

// tableau is rows as they are searched. An unknown that a line is of hangs on the parts of that line; each part is within its bounds and hangs on none. Free unknowns begin as parts; once one hangs on others, nothing can be wrong with it: its line is set aside till values are told.
type tableau struct {
	rows     []linear.Row
	vars     []int // the first unknowns are these variables
	unknowns []unknown
	sums     map[string]int // the unknowns that are sums of several variables, by their texts
	lines    []line
	aside    []line // as they were set aside; each may name unknowns of later ones
	steps    int
	patience int // how many more steps may go by what seems best
}

// reason is a bound that is used to show that nothing fulfils the rows, and how much of it.
type reason struct {
	by     bound
	weight arith.Int
}

// search: within so many steps. A step mends a bound that is broken, or finds that it can't be mended. (Dutertre and de Moura's way; where numbers have too many bits, it gives up.)
func (t *tableau) search(budget int) finding {
	if reasons := t.clash(); reasons != nil {
		if budget < 1 {
			return finding{}
		}
		t.steps++
		return t.refuted(reasons)
	}
	if t.start() != api.OK {
		return finding{}
	}
	for {
		at := t.broken()
		if at == none {
			return t.fulfilled()
		}
		if t.steps >= budget {
			return finding{}
		}
		t.steps++
		place := t.partner(t.lines[at])
		if place == none {
			return t.refuted(t.reasons(t.lines[at]))
		}
		if t.mend(at, place) != api.OK {
			return finding{}
		}
		t.patience--
	}
}

// broken: the line of the unknown that breaks a bound and should be mended first, or none.
func (t *tableau) broken() int {
	found := none
	for i, l := range t.lines {
		if t.unknowns[l.of].side != 0 && (found == none || t.isWorse(l.of, t.lines[found].of)) {
			found = i
		}
	}
	return found
}

// isWorse: than another unknown, which breaks a bound too? Mending what is farthest off takes the fewest steps, but going by that the search may turn in a circle: so, behind some steps, it is the first unknown. With isBetter that is Bland's rule, by which it comes to an end.
func (t *tableau) isWorse(a, b int) bool {
	if t.patience > 0 {
		if order := ratio.Cmp(t.unknowns[a].excess, t.unknowns[b].excess); order != 0 {
			return order > 0
		}
	}
	return a < b
}

// partner: the place of the part of a line that is to move so that the line's unknown, which breaks a bound, doesn't; or none.
func (t *tableau) partner(l line) int {
	up := t.unknowns[l.of].side < 0
	found := none
	for i, p := range l.parts {
		if t.unknowns[p.of].canGo(up == (p.coef.Sign() > 0)) && (found == none || t.isBetter(p, l.parts[found])) {
			found = i
		}
	}
	return found
}

// isBetter: than another part, to move? One that is free never breaks a bound afterwards. Else, while there is patience, what the fewest lines hang on costs least, and of a greater coefficient less of a move is enough.
func (t *tableau) isBetter(a, b share) bool {
	x, y := &t.unknowns[a.of], &t.unknowns[b.of]
	if x.isFree() != y.isFree() {
		return x.isFree()
	}
	if t.patience > 0 {
		if x.uses != y.uses {
			return x.uses < y.uses
		}
		if order := arith.Cmp(a.coef.Abs(), b.coef.Abs()); order != 0 {
			return order > 0
		}
	}
	return a.of < b.of
}

// reasons: why the unknown of a line breaks a bound, where no part can move.
func (t *tableau) reasons(l line) []reason {
	up := t.unknowns[l.of].side < 0
	list := []reason{{by: t.unknowns[l.of].broken(), weight: l.den}}
	for _, p := range l.parts {
		limit := t.unknowns[p.of].limit(up == (p.coef.Sign() > 0))
		list = append(list, reason{by: limit, weight: p.coef.Abs()})
	}
	return list
}

// refuted: Unsat, for reasons; but open, if their numbers are too large to be added.
func (t *tableau) refuted(reasons []reason) finding {
	slices.SortFunc(reasons, func(a, b reason) int { return cmp.Compare(a.by.row, b.by.row) })
	var parts []api.Part
	for _, r := range reasons {
		factor, _ := ratio.Of(r.weight, r.by.scale)
		parts = append(parts, api.Part{Row: r.by.row, Mult: factor.Text()})
	}
	if Shows(t.rows, parts) != api.OK {
		return finding{}
	}
	return finding{verdict: api.Unsat, parts: parts}
}

// fulfilled: Sat, with the variables' values.
func (t *tableau) fulfilled() finding {
	for _, l := range slices.Backward(t.aside) {
		value, err := t.valueOf(l)
		if err != api.OK {
			return finding{}
		}
		t.unknowns[l.of].set(value)
	}
	values := map[int]ratio.Rat{}
	for i, v := range t.vars {
		values[v] = t.unknowns[i].value
	}
	return finding{verdict: api.Sat, values: values}
}

// valueOf: of a line's unknown, by its parts.
func (t *tableau) valueOf(l line) (ratio.Rat, api.Errno) {
	var sum ratio.Rat
	for _, p := range l.parts {
		next, err := plus(sum, p.coef, t.unknowns[p.of].value)
		if err != api.OK {
			return ratio.Rat{}, err
		}
		sum = next
	}
	return ratio.Quo(sum, ratio.Whole(l.den))
}

// mend: the unknown of a line comes to the bound that it breaks, and changes places with the part at a place, which moves.
func (t *tableau) mend(at, place int) api.Errno {
	l := t.lines[at]
	u := &t.unknowns[l.of]
	goal := u.broken().at
	way, err := move(u.value, goal, l.den, l.parts[place].coef)
	if err != api.OK {
		return err
	}
	u.set(goal)
	by := l.solved(place)
	for i := range t.lines {
		if i == at {
			continue
		}
		if err := t.follow(i, by, way); err != api.OK {
			return err
		}
	}
	t.count(l, -1)
	return t.seat(at, by, way)
}

// move: how far a part goes, if what has it with a coefficient is to come from one value to another.
func move(from, to ratio.Rat, den, coef arith.Int) (ratio.Rat, api.Errno) {
	way, err := ratio.Sub(to, from)
	if err != api.OK {
		return ratio.Rat{}, err
	}
	each, err := ratio.Of(den, coef)
	if err != api.OK {
		return ratio.Rat{}, err
	}
	return ratio.Mul(way, each)
}

// follow: a line, if by's unknown is a part of it: that one has gone some way, and gives its place to by's parts.
func (t *tableau) follow(at int, by line, way ratio.Rat) api.Errno {
	l := t.lines[at]
	coef, ok := l.coefOf(by.of)
	if !ok {
		return api.OK
	}
	each, err := ratio.Of(coef, l.den)
	if err != api.OK {
		return err
	}
	if err := t.shift(l.of, each, way); err != api.OK {
		return err
	}
	next, err := l.put(by, coef)
	if err != api.OK {
		return err
	}
	t.count(l, -1)
	t.count(next, 1)
	t.lines[at] = next
	return api.OK
}

// shift: an unknown goes a factor of some way.
func (t *tableau) shift(of int, factor, way ratio.Rat) api.Errno {
	far, err := ratio.Mul(factor, way)
	if err != api.OK {
		return err
	}
	value, err := ratio.Add(t.unknowns[of].value, far)
	if err != api.OK {
		return err
	}
	t.unknowns[of].set(value)
	return api.OK
}

// seat: a line, whose unknown was a part till now and has gone some way, at a place; or aside, if that is free.
func (t *tableau) seat(at int, by line, way ratio.Rat) api.Errno {
	if t.unknowns[by.of].isFree() {
		t.aside = append(t.aside, by)
		t.lines = slices.Delete(t.lines, at, at+1)
		return api.OK
	}
	t.lines[at] = by
	t.count(by, 1)
	return t.shift(by.of, ratio.Whole(arith.From(1)), way)
}

// count: the uses of a line's parts, by so many more.
func (t *tableau) count(l line, more int) {
	for _, p := range l.parts {
		t.unknowns[p.of].uses += more
	}
}
