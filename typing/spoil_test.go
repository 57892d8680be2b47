package typing_test

import (
	"math/rand"
	"reflect"
	"slices"

	"surety/api"
)

// parts of a program that may be changed, each where it stands.
type parts struct {
	exprs   []*api.Expr
	blocks  []*[]api.Stmt
	stmts   []*api.Stmt
	classes []*api.Class
}

func partsOf(v reflect.Value, out *parts) {
	switch x := v.Addr().Interface().(type) {
	case *api.Expr:
		out.exprs = append(out.exprs, x)
	case *api.Stmt:
		out.stmts = append(out.stmts, x)
	case *[]api.Stmt:
		out.blocks = append(out.blocks, x)
	case *api.Class:
		out.classes = append(out.classes, x)
	}
	switch v.Kind() {
	case reflect.Struct:
		for i := range v.NumField() {
			partsOf(v.Field(i), out)
		}
	case reflect.Slice:
		for i := range v.Len() {
			partsOf(v.Index(i), out)
		}
	}
}

// spoilt: p with a change by which it may, or may not, have a fault.
func spoilt(r *rand.Rand, p api.Program) api.Program {
	p = copied(p)
	var all parts
	partsOf(reflect.ValueOf(&p).Elem(), &all)
	d := &drawer{Rand: r, slips: 2, r: reckoner{list: p.Classes}}
	switch d.Intn(8) {
	case 0, 1, 2:
		d.spoilExpr(oneOf(d, all.exprs...))
	case 3, 4:
		d.spoilBlock(oneOf(d, all.blocks...))
	case 5:
		if len(all.stmts) > 0 {
			d.spoilStmt(oneOf(d, all.stmts...))
		}
	default:
		if len(all.classes) > 0 {
			d.spoilClass(oneOf(d, all.classes...))
		}
	}
	return p
}

func (d *drawer) spoilExpr(e *api.Expr) {
	small := []api.Expr{numeral("1"), variable("nobody"), variable("v"), variable("p0"), variable("y"), {Op: "this"}, {Op: "null"}, {Op: "true"}, {Op: "read"}, {Op: "new", Name: "I"}, {Op: "new", Name: "A"}, {Op: "new", Name: "Nobody"}}
	switch signs := []string{"+", "/", "%", "<", "==", "!=", "&&", "=>"}; {
	case d.once(3):
		*e = oneOf(d, small...)
	case len(e.Args) == 2 && slices.Contains(append(signs, "-", "*", "||", "<=", ">", ">="), e.Op):
		e.Op = oneOf(d, signs...)
	case e.Op == "neg" || e.Op == "not" || e.Op == "len":
		e.Op = oneOf(d, "neg", "not", "len")
	case e.Op == "call" || e.Op == "new":
		if len(e.Args) > 1 && d.once(2) {
			e.Args = e.Args[:len(e.Args)-1]
		} else if len(e.Args) > 1 && d.once(2) {
			e.Args[len(e.Args)-1] = oneOf(d, small...)
		} else {
			e.Args = append(e.Args, oneOf(d, small...))
		}
	case e.Op == "var" || e.Op == "field":
		e.Name = oneOf(d, "nobody", "y", "z", "p1", "ax0", "by1")
	case e.Op == "list":
		e.Type = []api.Type{oneOf(d, ref("Nobody"), anInt, ref("A"), aBool)}
	default:
		*e = oneOf(d, small...)
	}
}

// spoilBlock: a statement more, one less, or one somewhere else.
func (d *drawer) spoilBlock(list *[]api.Stmt) {
	more := []api.Stmt{
		{Kind: "return"}, {Kind: "return", Exprs: []api.Expr{numeral("1")}}, {Kind: "let", Name: "y", Exprs: []api.Expr{{Op: "null"}}},
		{Kind: "set", Name: "p0", Exprs: []api.Expr{numeral("1")}}, {Kind: "set", Name: "z", Exprs: []api.Expr{numeral("1")}},
		{Kind: "field", Name: oneOf(d, "ax0", "by0", "ay1"), Exprs: []api.Expr{{Op: "this"}, numeral("1")}}, {Kind: "print", Exprs: []api.Expr{{Op: "true"}}},
		{Kind: "let", Name: "y", Type: []api.Type{{Kind: api.Bool}}, Exprs: []api.Expr{numeral("1")}},
	}
	old := slices.Clone(*list)
	switch {
	case len(old) == 0 || d.once(3):
		*list = slices.Insert(old, d.Intn(len(old)+1), oneOf(d, more...))
	case d.once(2):
		i := d.Intn(len(old))
		*list = slices.Delete(old, i, i+1)
	case d.once(2):
		*list = append(old, oneOf(d, old...))
	default:
		*list = []api.Stmt{{Kind: "if", Exprs: []api.Expr{{Op: "true"}}, Body: old}}
	}
}

func (d *drawer) spoilStmt(s *api.Stmt) {
	switch s.Kind {
	case "let", "set":
		if d.once(2) {
			s.Name = oneOf(d, "p0", "nobody", "y", "z")
		} else if s.Kind == "let" {
			s.Type = []api.Type{oneOf(d, ref("Nobody"), anInt, ref("A"), aBool)}
		}
	case "field":
		s.Name = oneOf(d, "nobody", "ax0", "by1", "f")
	case "return":
		s.Exprs = nil
	default:
		if len(s.Exprs) > 0 {
			d.spoilExpr(&s.Exprs[0])
		}
	}
}

func (d *drawer) spoilClass(c *api.Class) {
	switch d.Intn(8) {
	case 0:
		c.Ctors = nil
	case 1:
		if len(c.Ctors) > 0 {
			n := &c.Ctors[0]
			n.HasSuper = !n.HasSuper
			n.Super = nil
		}
	case 2:
		if len(c.Ctors) > 0 {
			c.Ctors[0].Params = append(c.Ctors[0].Params, api.Param{Name: "more", Type: anInt})
		}
	case 3:
		if len(c.Fields) > 0 {
			i := d.Intn(len(c.Fields))
			c.Fields[i].Final = !c.Fields[i].Final
		}
	case 4:
		if len(c.Fields) > 0 {
			i := d.Intn(len(c.Fields))
			c.Fields[i].Type = oneOf(d, anInt, aBool, ref("A"), api.Type{Kind: api.List, Elem: []api.Type{anInt}})
		}
	case 5:
		if !c.Iface {
			c.Fields = append(c.Fields, api.Field{Name: "more", Type: anInt})
		}
	case 6:
		if len(c.Meths) > 0 {
			i := d.Intn(len(c.Meths))
			c.Meths[i].Params = append(c.Meths[i].Params, api.Param{Name: "more", Type: anInt})
		}
	case 7:
		if !c.Iface {
			m := api.Method{Name: "f", Params: []api.Param{{Name: "p0", Type: ref(oneOf(d, "A", "B", "I", "J"))}}, Result: anInt, Body: []api.Stmt{{Kind: "return", Exprs: []api.Expr{numeral("1")}}}}
			c.Meths = append(c.Meths, m)
		}
	}
}
