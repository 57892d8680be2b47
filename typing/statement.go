package typing

import (
	"math"

	"surety/api"
)

// block: behind its end its names aren't there any more.
func (c *checker) block(list []api.Stmt) {
	for i := range list {
		c.stmt(&list[i])
	}
	for _, s := range list {
		if s.Kind == "let" {
			delete(c.names, s.Name)
		}
	}
}

func (c *checker) stmt(s *api.Stmt) {
	least, most := stmtParts(s.Kind)
	refuse(len(s.Exprs) < least || len(s.Exprs) > most, api.ErrType, s.At) // no text is read so
	switch s.Kind {
	case "let":
		c.let(s)
	case "set":
		c.set(s)
	case "field":
		c.setField(s)
	case "elem":
		c.setElem(s)
	case "if":
		c.must(s, api.Bool)
		c.block(s.Body)
		c.block(s.Else)
	case "while":
		c.while(s)
	case "return":
		c.giveBack(s)
	case "assert":
		c.must(s, api.Bool)
	case "print":
		c.must(s, api.Int)
	case "do":
		c.expr(&s.Exprs[0], c.here)
	}
}

// stmtParts: how many expressions a statement has, at least and at most; of no kind there is none.
func stmtParts(kind string) (least, most int) {
	switch kind {
	case "let", "set", "if", "assert", "print", "do":
		return 1, 1
	case "field":
		return 2, 2
	case "elem":
		return 3, 3
	case "while":
		return 1, math.MaxInt
	case "return":
		return 0, 1
	}
	return 1, 0
}

// must: a statement's first expression.
func (c *checker) must(s *api.Stmt, kind int) {
	c.mustFit(&s.Exprs[0], api.Type{Kind: kind}, c.here)
}

// mustFit: its own faults are told first.
func (c *checker) mustFit(e *api.Expr, t api.Type, s sight) {
	c.expr(e, s)
	refuse(!c.fits(of(*e), t), api.ErrType, e.At)
}

func (c *checker) let(s *api.Stmt) {
	_, there := c.names[s.Name]
	refuse(there, api.ErrTwice, s.At)
	refuse(len(s.Type) > 1, api.ErrType, s.At) // no text is read so
	e := &s.Exprs[0]
	if len(s.Type) == 0 {
		c.expr(e, c.here)
		t := of(*e)
		refuse(t.Kind == api.Void || t.Kind == api.Nil, api.ErrType, e.At)
		c.names[s.Name] = name{typ: t}
		return
	}
	c.written(&s.Type[0], sight{names: paramNames, this: c.here.this})
	c.mustFit(e, s.Type[0], c.here)
	c.names[s.Name] = name{typ: s.Type[0]}
}

// written: a type that stands in a body; of others a table's maker looks whether they are there.
func (c *checker) written(t *api.Type, s sight) {
	f := c.table.Known(*t)
	refuse(f.Code != api.OK, f.Code, f.At)
	c.typ(t, s)
}

func (c *checker) set(s *api.Stmt) {
	n, there := c.names[s.Name]
	refuse(!there, api.ErrName, s.At)
	refuse(n.param, api.ErrFinal, s.At)
	c.mustFit(&s.Exprs[0], n.typ, c.here)
}

func (c *checker) setField(s *api.Stmt) {
	c.expr(&s.Exprs[0], c.here)
	f := c.fieldOf(of(s.Exprs[0]), s.Name, s.At)
	refuse(f.Final, api.ErrFinal, s.At)
	c.mustFit(&s.Exprs[1], f.Type, c.here)
}

func (c *checker) setElem(s *api.Stmt) {
	c.expr(&s.Exprs[0], c.here)
	list := of(s.Exprs[0])
	refuse(list.Kind != api.List, api.ErrType, s.At)
	c.mustFit(&s.Exprs[1], api.Type{Kind: api.Int}, c.here)
	c.mustFit(&s.Exprs[2], element(list), c.here)
}

func (c *checker) while(s *api.Stmt) {
	c.must(s, api.Bool)
	for i := range s.Exprs[1:] {
		c.predicate(&s.Exprs[1+i], c.here)
	}
	c.block(s.Body)
}

func (c *checker) giveBack(s *api.Stmt) {
	refuse(c.result == nil, api.ErrReturn, s.At)
	refuse((len(s.Exprs) > 0) != (c.result.Kind != api.Void), api.ErrType, s.At)
	if len(s.Exprs) > 0 {
		c.mustFit(&s.Exprs[0], *c.result, c.here)
	}
}
