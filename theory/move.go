package theory

import "surety/api"

// move turns a tree for many rows into one for those alone that it takes factors of, whose variables have other numbers.
type move struct {
	before   int         // how many rows there were: behind them are those of splits
	rows     map[int]int // the places of those that stay
	from, to *table
}

// tree: moved, as new memory.
func (m move) tree(b api.Branch) api.Branch {
	if b.Leaf {
		out := api.Branch{Leaf: true}
		for _, p := range b.Parts {
			out.Parts = append(out.Parts, api.Part{Row: m.row(p.Row), Mult: p.Mult})
		}
		return out
	}
	out := api.Branch{Var: m.variable(b.Var), Split: b.Split}
	for _, kid := range b.Kids {
		out.Kids = append(out.Kids, m.tree(kid))
	}
	return out
}

func (m move) row(place int) int {
	if place >= m.before {
		return place - m.before + len(m.rows)
	}
	return m.rows[place]
}

// variable: one that no row names any more gets a number that no row has.
func (m move) variable(v int) int {
	term, err := m.to.termOf(m.from.unknowns[v].form)
	if err != api.OK {
		return v
	}
	return term.Vars()[0]
}
