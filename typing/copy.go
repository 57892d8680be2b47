package typing

import (
	"slices"
	"strings"

	"surety/api"
)

// roomWithin: of how many parts the predicates in types of expressions of predicates may be, all in all. In lists of lists there are twice as many with each more, so that beyond it a small program's types would fill any memory; a predicate more is then left without types.
const roomWithin = 1 << 20

// copier makes trees in new memory. It ends where a checker's types come round in a circle: where a predicate stands in the type of one of its own expressions, it is left without types there.
type copier struct {
	plain  bool // only the types that are written go over
	room   int
	within []*api.Expr // the predicates that are under way, by their places in the old memory
}

// copies: a list in new memory, without the spare room of the old one.
func copies[T any](list []T, one func(T) T) []T {
	if list == nil {
		return nil
	}
	out := make([]T, len(list))
	for i, part := range list {
		out[i] = one(part)
	}
	return out
}

func (c *copier) program(p api.Program) api.Program {
	return api.Program{Classes: copies(p.Classes, c.class), Main: copies(p.Main, c.stmt)}
}

func (c *copier) class(decl api.Class) api.Class {
	decl.Name = strings.Clone(decl.Name)
	decl.Super = strings.Clone(decl.Super)
	decl.Above = copies(decl.Above, strings.Clone)
	decl.Fields = copies(decl.Fields, c.field)
	decl.Invs = copies(decl.Invs, c.expr)
	decl.Ctors = copies(decl.Ctors, c.ctor)
	decl.Meths = copies(decl.Meths, c.method)
	return decl
}

func (c *copier) field(f api.Field) api.Field {
	f.Name = strings.Clone(f.Name)
	f.Type = c.typ(f.Type)
	return f
}

func (c *copier) ctor(n api.Ctor) api.Ctor {
	n.Params = copies(n.Params, c.param)
	n.Super = copies(n.Super, c.expr)
	n.Body = copies(n.Body, c.stmt)
	return n
}

func (c *copier) method(m api.Method) api.Method {
	m.Name = strings.Clone(m.Name)
	m.Params = copies(m.Params, c.param)
	m.Result = c.typ(m.Result)
	m.Body = copies(m.Body, c.stmt)
	return m
}

func (c *copier) param(p api.Param) api.Param {
	p.Name = strings.Clone(p.Name)
	p.Type = c.typ(p.Type)
	return p
}

func (c *copier) stmt(s api.Stmt) api.Stmt {
	s.Kind = strings.Clone(s.Kind)
	s.Name = strings.Clone(s.Name)
	s.Type = copies(s.Type, c.typ)
	s.Exprs = copies(s.Exprs, c.expr)
	s.Body = copies(s.Body, c.stmt)
	s.Else = copies(s.Else, c.stmt)
	return s
}

func (c *copier) expr(e api.Expr) api.Expr {
	c.count()
	if c.plain && e.Op != "list" {
		e.Type = nil
	}
	e.Op = strings.Clone(e.Op)
	e.Name = strings.Clone(e.Name)
	e.Args = copies(e.Args, c.expr)
	e.Type = copies(e.Type, c.typ)
	return e
}

func (c *copier) typ(t api.Type) api.Type {
	c.count()
	t.Name = strings.Clone(t.Name)
	t.Elem = copies(t.Elem, c.typ)
	t.Pred = c.preds(t.Pred)
	return t
}

// count: what stands in a predicate in another one's types takes room.
func (c *copier) count() {
	if len(c.within) > 1 {
		c.room--
	}
}

func (c *copier) preds(list []api.Expr) []api.Expr {
	if c.plain || len(list) == 0 {
		return copies(list, c.expr)
	}
	place := &list[0]
	if slices.Contains(c.within, place) || len(c.within) > 0 && c.room <= 0 {
		c.plain = true
		out := copies(list, c.expr)
		c.plain = false
		return out
	}
	c.within = append(c.within, place)
	out := copies(list, c.expr)
	c.within = c.within[:len(c.within)-1]
	return out
}
