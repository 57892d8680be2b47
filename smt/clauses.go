package smt

import (
	"strconv"
	"strings"

	"surety/api"
	"surety/theory"
)

// node is what a variable stands for.
type node struct {
	kind int      // of an atom its own; else FAnd or FIff
	atom api.Form // as it was first met
	lits []int    // what FAnd or FIff is of
}

// coder makes clauses of a formula. Every part has a literal: parts that are alike have one in common, and one that is the opposite of another has no variable of its own.
type coder struct {
	nodes   []node         // by variable; 0 is none's
	places  map[string]int // variables, by what they stand for
	clauses [][]int
	root    int // the whole formula's literal
}

// Clauses: a formula as clauses: they have a model for some atoms' truth just if the formula is true then.
func Clauses(f api.Form) (Coded, api.Errno) {
	c, err := code(f)
	if err != api.OK {
		return Coded{}, err
	}
	out := Coded{Vars: c.vars(), Clauses: c.clauses}
	for v, n := range c.nodes {
		if isAtom(n.kind) {
			out.Atoms = append(out.Atoms, Atom{Var: v, Form: copied(n.atom)})
		}
	}
	return out, api.OK
}

// code: the nodes share memory with the formula.
func code(f api.Form) (*coder, api.Errno) {
	if err := theory.Sound(f); err != api.OK {
		return nil, err
	}
	c := &coder{nodes: make([]node, 1), places: map[string]int{}}
	c.root = c.literal(f)
	c.clause(c.root)
	if c.isTooLong() {
		return nil, api.ErrLong
	}
	return c, api.OK
}

// vars: how many variables there are.
func (c *coder) vars() int { return len(c.nodes) - 1 }

func (c *coder) isTooLong() bool {
	if c.vars() > api.MaxVars || len(c.clauses) > api.MaxClauses/2 {
		return true
	}
	for _, lits := range c.clauses {
		if len(lits) > api.MaxVars {
			return true
		}
	}
	return false
}

func isAtom(kind int) bool { return kind == api.FBool || isStatement(kind) }

// isStatement: about two terms?
func isStatement(kind int) bool { return kind == api.FLe || kind == api.FEq }

// unsigned: the variable of a literal.
func unsigned(l int) int { return max(l, -l) }

func opposites(lits []int) []int {
	var out []int
	for _, l := range lits {
		out = append(out, -l)
	}
	return out
}

// literal: true just if a part is.
func (c *coder) literal(f api.Form) int {
	if isAtom(f.Kind) {
		return c.variable(Key(f), node{kind: f.Kind, atom: f})
	}
	var lits []int
	for _, arg := range f.Args {
		lits = append(lits, c.literal(arg))
	}
	switch f.Kind {
	case api.FNot:
		return -lits[0]
	case api.FAnd:
		return c.every(lits)
	case api.FOr:
		return -c.every(opposites(lits))
	case api.FImp:
		return -c.every([]int{lits[0], -lits[1]})
	}
	return c.same(lits[0], lits[1])
}

// variable: the one with that key, or a new one, which stands for n.
func (c *coder) variable(key string, n node) int {
	v, ok := c.places[key]
	if !ok {
		v = len(c.nodes)
		c.places[key] = v
		c.nodes = append(c.nodes, n)
	}
	return v
}

// joined: the variable of some literals joined; and true, if it is new, so that no clause has it yet.
func (c *coder) joined(kind int, lits []int) (int, bool) {
	var key strings.Builder // no atom's, whose kinds are others
	key.WriteString(strconv.Itoa(kind))
	for _, l := range lits {
		key.WriteByte(' ')
		key.WriteString(strconv.Itoa(l))
	}
	before := len(c.nodes)
	v := c.variable(key.String(), node{kind: kind, lits: lits})
	return v, len(c.nodes) > before
}

// every: a literal that is true just if all of some are.
func (c *coder) every(lits []int) int {
	if len(lits) == 1 {
		return lits[0]
	}
	v, isNew := c.joined(api.FAnd, lits)
	if isNew {
		for _, l := range lits {
			c.clause(-v, l)
		}
		c.clause(append(opposites(lits), v)...)
	}
	return v
}

// same: a literal that is true just if both of two are, or neither.
func (c *coder) same(a, b int) int {
	v, isNew := c.joined(api.FIff, []int{a, b})
	if isNew {
		c.clause(-v, -a, b)
		c.clause(-v, a, -b)
		c.clause(v, a, b)
		c.clause(v, -a, -b)
	}
	return v
}

func (c *coder) clause(lits ...int) { c.clauses = append(c.clauses, lits) }
