package ssa

import (
	"strings"

	"surety/api"
)

// copies: of each part of a list what comes of it, in new memory.
func copies[T, U any](list []T, one func(T) U) []U {
	if list == nil {
		return nil
	}
	out := make([]U, len(list))
	for i, part := range list {
		out[i] = one(part)
	}
	return out
}

// renamed: an expression in new memory, with other names of vars. Types are written once and for all: what their predicates name are no versions.
func renamed(e api.Expr, name func(string) string) api.Expr {
	if e.Op == "var" {
		e.Name = name(e.Name)
	} else {
		e.Name = strings.Clone(e.Name)
	}
	e.Op = strings.Clone(e.Op)
	e.Args = copies(e.Args, func(part api.Expr) api.Expr { return renamed(part, name) })
	e.Type = copies(e.Type, sameType)
	return e
}

func sameExpr(e api.Expr) api.Expr { return renamed(e, strings.Clone) }

// sameType: a type as it is, in new memory.
func sameType(t api.Type) api.Type {
	t.Name = strings.Clone(t.Name)
	t.Elem = copies(t.Elem, sameType)
	t.Pred = copies(t.Pred, sameExpr)
	return t
}
