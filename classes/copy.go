package classes

import (
	"strings"

	"surety/api"
)

// copies: a list in new memory, without the spare room of the old one; nil stays nil.
func copies[T any](list []T, one func(T) T) []T {
	if list == nil {
		return nil
	}
	out := make([]T, len(list))
	for i, part := range list {
		out[i] = one(part)
	}
	return out
}

func copyClass(c api.Class) api.Class {
	c.Name = strings.Clone(c.Name)
	c.Super = strings.Clone(c.Super)
	c.Above = copies(c.Above, strings.Clone)
	c.Fields = copies(c.Fields, copyField)
	c.Invs = copies(c.Invs, copyExpr)
	c.Ctors = copies(c.Ctors, copyCtor)
	c.Meths = copies(c.Meths, copyMethod)
	return c
}

func copyField(f api.Field) api.Field {
	f.Name = strings.Clone(f.Name)
	f.Type = copyType(f.Type)
	return f
}

func copyCtor(c api.Ctor) api.Ctor {
	c.Params = copies(c.Params, copyParam)
	c.Super = copies(c.Super, copyExpr)
	c.Body = copies(c.Body, copyStmt)
	return c
}

func copyMethod(m api.Method) api.Method {
	m.Name = strings.Clone(m.Name)
	m.Params = copies(m.Params, copyParam)
	m.Result = copyType(m.Result)
	m.Body = copies(m.Body, copyStmt)
	return m
}

func copyParam(p api.Param) api.Param {
	p.Name = strings.Clone(p.Name)
	p.Type = copyType(p.Type)
	return p
}

func copyType(t api.Type) api.Type {
	t.Name = strings.Clone(t.Name)
	t.Elem = copies(t.Elem, copyType)
	t.Pred = copies(t.Pred, copyExpr)
	return t
}

func copyExpr(e api.Expr) api.Expr {
	e.Op = strings.Clone(e.Op)
	e.Name = strings.Clone(e.Name)
	e.Args = copies(e.Args, copyExpr)
	e.Type = copies(e.Type, copyType)
	return e
}

func copyStmt(s api.Stmt) api.Stmt {
	s.Kind = strings.Clone(s.Kind)
	s.Name = strings.Clone(s.Name)
	s.Type = copies(s.Type, copyType)
	s.Exprs = copies(s.Exprs, copyExpr)
	s.Body = copies(s.Body, copyStmt)
	s.Else = copies(s.Else, copyStmt)
	return s
}
