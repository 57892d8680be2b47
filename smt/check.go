package smt

import (
	"surety/api"
	"surety/sat"
	"surety/theory"
)

// Check: does a certificate show that a formula has no model?
func Check(f api.Form, c Cert) api.Errno {
	coded, err := code(f)
	if err != api.OK {
		return err
	}
	if len(c.Atoms) > api.MaxVars || len(c.Lemmas) > api.MaxClauses || len(c.Chains) > api.MaxClauses {
		return api.ErrLong
	}
	for _, atom := range c.Atoms {
		coded.further(atom)
	}
	for _, lemma := range c.Lemmas {
		lits, err := coded.denied(lemma.Clause)
		if err != api.OK {
			return err
		}
		if err := theory.Shows(lits, lemma.Proof); err != api.OK {
			return err
		}
		coded.clause(lemma.Clause...)
	}
	return sat.Check(coded.clauses, c.Chains)
}

// further: a variable more, for an atom that isn't the formula's. What is no statement is no such atom: its variable stands for nothing.
func (c *coder) further(atom api.Form) {
	var n node
	if isStatement(atom.Kind) {
		n = node{kind: atom.Kind, atom: atom}
	}
	c.nodes = append(c.nodes, n)
}

// denied: the opposites of a clause's literals, as layer 8 has them.
func (c *coder) denied(clause []int) ([]theory.Lit, api.Errno) {
	var lits []theory.Lit
	for _, l := range clause {
		v := unsigned(l)
		if v < 1 || v > c.vars() || !isAtom(c.nodes[v].kind) { // the least int has no opposite: it stays below 0
			return nil, api.ErrLit
		}
		lits = append(lits, theory.Lit{Atom: c.nodes[v].atom, Neg: l > 0})
	}
	return lits, api.OK
}
