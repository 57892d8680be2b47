package lia

import (
	"surety/api"
	"surety/arith"
	"surety/linear"
	"surety/simplex"
)

// Check: does a tree show that no whole numbers fulfil rows?
func Check(rows []linear.Row, cert api.Branch) api.Errno { return checked(tightened(rows), cert, 0) }

// checked: of a tree that lies in depth others, and of the rows there, behind which others may be written.
func checked(rows []linear.Row, b api.Branch, depth int) api.Errno {
	if depth > api.MaxForm {
		return api.ErrDeep
	}
	if b.Leaf {
		return simplex.Shows(rows, b.Parts)
	}
	sides, err := sidesOf(b)
	if err != api.OK {
		return err
	}
	if len(b.Kids) != len(sides) {
		return api.ErrCert
	}
	for i, kid := range b.Kids {
		if err := checked(append(rows, sides[i]), kid, depth+1); err != api.OK {
			return err
		}
	}
	return api.OK
}

// sidesOf: the rows that a tree which splits has more, in its first kid and in its second.
func sidesOf(b api.Branch) ([2]linear.Row, api.Errno) {
	if _, err := linear.Var(b.Var); err != api.OK {
		return [2]linear.Row{}, err
	}
	at, err := arith.Parse(b.Split)
	if err != api.OK {
		return [2]linear.Row{}, err
	}
	return split{of: b.Var, at: at}.sides()
}

// Uses: the rows that a tree takes factors of, below count, rising.
func Uses(b api.Branch, count int) []int {
	var used [api.MaxRows]bool
	eachPart(b, 0, func(p *api.Part) {
		if 0 <= p.Row && p.Row < min(count, len(used)) {
			used[p.Row] = true
		}
	})
	var list []int
	for place, is := range used {
		if is {
			list = append(list, place)
		}
	}
	return list
}

// eachPart: of the leaves of a tree that lies in depth others.
func eachPart(b api.Branch, depth int, do func(*api.Part)) {
	if depth > api.MaxForm {
		return
	}
	if b.Leaf {
		for i := range b.Parts {
			do(&b.Parts[i])
		}
		return
	}
	for _, kid := range b.Kids {
		eachPart(kid, depth+1, do)
	}
}

// takes: does a tree take a factor of the row at a place?
func takes(b api.Branch, place int) bool {
	found := false
	eachPart(b, 0, func(p *api.Part) { found = found || p.Row == place })
	return found
}

// forget: in a tree that takes no factor of the row at a place, that row isn't there any more, so that those behind it move up.
func forget(b api.Branch, place int) {
	eachPart(b, 0, func(p *api.Part) {
		if p.Row > place {
			p.Row--
		}
	})
}
