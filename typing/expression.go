package typing

import (
	"math"

	"surety/api"
)

// of: as Of, but that it shares the elements' type.
func of(e api.Expr) api.Type {
	switch {
	case e.Op == "list":
		return api.Type{Kind: api.List, Elem: e.Type}
	case len(e.Type) > 0:
		return e.Type[0]
	}
	return api.Type{}
}

// bare: a type as an expression has it.
func bare(t api.Type) api.Type {
	t.Pred, t.Null, t.At = nil, false, 0
	return t
}

// element: of a list's type. A tree that no text is read as may have none: then it is the zero type.
func element(list api.Type) api.Type {
	if len(list.Elem) == 0 {
		return api.Type{}
	}
	return list.Elem[0]
}

func (c *checker) exprs(list []api.Expr, s sight) {
	for i := range list {
		c.expr(&list[i], s)
	}
}

// expr: an expression and its parts get their types.
func (c *checker) expr(e *api.Expr, s sight) {
	refuse(barred(e.Op, s.pred), api.ErrPred, e.At)
	c.ahead(e)
	rest := e.Args
	if e.Op == "call" && len(rest) > 0 {
		c.expr(&rest[0], s)
		refuse(of(rest[0]).Kind != api.Ref, api.ErrType, e.At)
		rest = rest[1:]
	}
	c.exprs(rest, s)
	least, most := exprParts(e.Op)
	refuse(len(e.Args) < least || len(e.Args) > most, api.ErrType, e.At) // no text is read so
	t := bare(c.own(e, s))
	if e.Op != "list" {
		e.Type = []api.Type{t}
	}
}

// barred: what may not stand in predicates, or in them alone.
func barred(op string, pred bool) bool {
	switch op {
	case "call", "new", "list", "read", "index", "/", "%":
		return pred
	case "=>":
		return !pred
	}
	return false
}

// exprParts: how many parts an expression has, at least and at most; of no sort there is none.
func exprParts(op string) (least, most int) {
	switch op {
	case "num", "true", "false", "null", "this", "var", "read":
		return 0, 0
	case "field", "len", "neg", "not":
		return 1, 1
	case "call":
		return 1, math.MaxInt
	case "new":
		return 0, math.MaxInt
	case "list", "index", "+", "-", "*", "/", "%", "<", "<=", ">", ">=", "==", "!=", "&&", "||", "=>":
		return 2, 2
	}
	return 1, 0
}

// ahead: what is looked at ahead of the parts.
func (c *checker) ahead(e *api.Expr) {
	switch e.Op {
	case "new":
		h := c.homes[e.Name]
		refuse(h == nil, api.ErrNoType, e.At)
		refuse(h.decl.Iface, api.ErrAbstract, e.At)
	case "list":
		refuse(len(e.Type) != 1, api.ErrType, e.At) // no text is read so
		c.written(&e.Type[0], sight{})
	}
}

// own: an expression's type, once its parts have theirs.
func (c *checker) own(e *api.Expr, s sight) api.Type {
	switch e.Op {
	case "num", "read":
		return api.Type{Kind: api.Int}
	case "true", "false":
		return api.Type{Kind: api.Bool}
	case "null":
		return api.Type{Kind: api.Nil}
	case "this":
		refuse(!s.this, api.ErrThis, e.At)
		return api.Type{Kind: api.Ref, Name: c.self}
	case "var":
		return c.named(e, s)
	case "field":
		f := c.fieldOf(of(e.Args[0]), e.Name, e.At)
		refuse(s.pred && !f.Final, api.ErrPred, e.At)
		return f.Type
	case "call":
		return c.call(e)
	case "new":
		refuse(!c.fitEach(e.Args, c.made(e.Name)), api.ErrNoMethod, e.At)
		return api.Type{Kind: api.Ref, Name: e.Name}
	case "list":
		fine := of(e.Args[0]).Kind == api.Int && c.fits(of(e.Args[1]), e.Type[0])
		refuse(!fine, api.ErrType, e.At)
		return of(*e)
	case "index":
		list := of(e.Args[0])
		refuse(list.Kind != api.List || of(e.Args[1]).Kind != api.Int, api.ErrType, e.At)
		return element(list)
	}
	return c.sign(e)
}

// sign: of signs, and of len, which are the same for all values.
func (c *checker) sign(e *api.Expr) api.Type {
	switch e.Op {
	case "len":
		c.parts(e, api.List)
		return api.Type{Kind: api.Int}
	case "neg", "+", "-", "*", "/", "%":
		c.parts(e, api.Int)
		return api.Type{Kind: api.Int}
	case "<", "<=", ">", ">=":
		c.parts(e, api.Int)
	case "==", "!=":
		a, b := of(e.Args[0]), of(e.Args[1])
		nils := a.Kind == api.Nil && b.Kind == api.Nil
		refuse(!nils && !c.fits(a, b) && !c.fits(b, a), api.ErrType, e.At)
	default:
		c.parts(e, api.Bool)
	}
	return api.Type{Kind: api.Bool}
}

// parts: they must all be of a kind.
func (c *checker) parts(e *api.Expr, kind int) {
	for _, part := range e.Args {
		refuse(of(part).Kind != kind, api.ErrType, e.At)
	}
}

// named: what a name stands for. In a type's predicate v hides others.
func (c *checker) named(e *api.Expr, s sight) api.Type {
	if s.value != nil && e.Name == "v" {
		return *s.value
	}
	n, there := c.names[e.Name]
	there = there && (s.names == allNames || s.names == paramNames && n.param)
	refuse(!there, api.ErrName, e.At)
	return n.typ
}

// fieldOf: one that an object of a type has, or a fault at a place.
func (c *checker) fieldOf(object api.Type, name string, at int) *api.Field {
	refuse(object.Kind != api.Ref, api.ErrType, at)
	f := c.field(object.Name, name)
	refuse(f == nil, api.ErrName, at)
	return f
}

// call: from here on its name is the signature of the method that is called.
func (c *checker) call(e *api.Expr) api.Type {
	var fit []method
	for _, m := range c.methods(of(e.Args[0]).Name, e.Name) {
		if c.fitEach(e.Args[1:], m.decl.Params) {
			fit = append(fit, m)
		}
	}
	refuse(len(fit) == 0, api.ErrNoMethod, e.At)
	called := fit[0]
	for _, m := range fit {
		if !c.narrower(called, m) {
			called = m // no other one that was passed can be the narrowest, either
		}
	}
	for _, m := range fit {
		refuse(!c.narrower(called, m), api.ErrAmbiguous, e.At)
	}
	e.Name = called.sig
	return called.decl.Result
}

// narrower: does each parameter of a method fit the same one of another?
func (c *checker) narrower(a, b method) bool {
	for i, p := range a.decl.Params {
		if !c.fits(p.Type, b.decl.Params[i].Type) {
			return false
		}
	}
	return true
}
