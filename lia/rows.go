package lia

import (
	"cmp"
	"slices"

	"surety/api"
	"surety/arith"
	"surety/linear"
	"surety/simplex"
)

// held is a row that is reckoned with, and its place among all rows.
type held struct {
	place int
	row   linear.Row
}

// strictest: of the rows with one sum only the one that asks most. So there is room for splits behind as many rows as there may be, if they say the same again and again.
func strictest(rows []linear.Row) []held {
	var list []held
	where := map[string]int{} // by the sum's text
	for i, r := range rows {
		text := r.Sum.Text()
		at, ok := where[text]
		switch {
		case !ok:
			where[text] = len(list)
			list = append(list, held{place: i, row: r})
		case arith.Cmp(r.Most, list[at].row.Most) < 0:
			list[at] = held{place: i, row: r}
		}
	}
	slices.SortFunc(list, func(a, b held) int { return cmp.Compare(a.place, b.place) })
	return list
}

// groups: rows that have variables in common, straight or by way of others, together. What one group needs of splits is nothing to the others.
func groups(rows []held) [][]held {
	var next links
	for _, h := range rows {
		vars := h.row.Sum.Vars()
		for _, v := range vars {
			next.join(vars[0], v)
		}
	}
	var list [][]held
	where := map[int]int{} // by the variable that stands for the group
	for _, h := range rows {
		name := -1 // of the row without variables
		if vars := h.row.Sum.Vars(); len(vars) > 0 {
			name = next.end(vars[0])
		}
		at, ok := where[name]
		if !ok {
			at = len(list)
			where[name] = at
			list = append(list, nil)
		}
		list[at] = append(list[at], h)
	}
	return list
}

// links lead from variable to variable; those that come to one end belong together. Each is how far up the next one is, so that without links every variable is an end.
type links [api.MaxVars]int

// end: where a variable's links lead to; the way becomes shorter for those who come later.
func (l *links) end(v int) int {
	for l[v] != 0 {
		up := v + l[v]
		l[v] += l[up]
		v = up
	}
	return v
}

// join: two variables belong together.
func (l *links) join(a, b int) {
	a, b = l.end(a), l.end(b)
	l[min(a, b)] = max(a, b) - min(a, b)
}

// with: rows, and behind them one more, which asks more than the one with its sum, if there is one: that goes, so that there aren't more rows the more splits there are.
func with(rows []held, more held) []held {
	list := make([]held, 0, len(rows)+1)
	for _, h := range rows {
		if !linear.Same(h.row.Sum, more.row.Sum) {
			list = append(list, h)
		}
	}
	return append(list, more)
}

// systemOf: rows, numbered as they come.
func systemOf(rows []held) (*simplex.System, api.Errno) {
	system := simplex.New()
	for _, h := range rows {
		if _, err := system.Add(h.row); err != api.OK {
			return nil, err
		}
	}
	return system, api.OK
}

// leaf: of factors of rows that are held, by their places among all.
func leaf(rows []held, parts []api.Part) api.Branch {
	for i, p := range parts {
		parts[i].Row = rows[p.Row].place
	}
	return api.Branch{Leaf: true, Parts: parts}
}
