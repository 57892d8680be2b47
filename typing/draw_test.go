package typing_test

import (
	"math/rand"
	"slices"
	"strings"

	"surety/api"
	"surety/classes"
)

// drawer draws programs whose classes have no fault, and which mostly have no fault of this layer, either.
type drawer struct {
	*rand.Rand
	slips   int // of so many expressions one is anything
	r       reckoner
	results map[string]api.Type // by signature
	params  map[string][]api.Type
}

func (d *drawer) once(times int) bool { return d.Intn(times) == 0 }

func oneOf[T any](d *drawer, list ...T) T { return list[d.Intn(len(list))] }

var classNames, ifaceNames = strings.Fields("A B C D"), strings.Fields("I J")

// drawn: a program, its classes in any order.
func drawn(r *rand.Rand, slips int) api.Program {
	d := &drawer{Rand: r, slips: slips, results: map[string]api.Type{}, params: map[string][]api.Type{}}
	for _, name := range ifaceNames {
		c := api.Class{Name: name, Iface: true}
		if len(d.r.list) > 0 && d.once(2) {
			c.Above = []string{d.r.list[0].Name}
		}
		d.heads(&c)
		d.r.list = append(d.r.list, c)
	}
	for _, name := range classNames {
		d.r.list = append(d.r.list, d.class(name))
	}
	d.complete()
	d.Shuffle(len(d.r.list), func(i, j int) { d.r.list[i], d.r.list[j] = d.r.list[j], d.r.list[i] })
	d.r.table, _ = classes.New(api.Program{Classes: d.r.list})
	out := api.Program{}
	for _, c := range d.r.list {
		out.Classes = append(out.Classes, d.filled(c))
	}
	out.Main, _ = d.block(scope{}, nil, 6)
	return out
}

// class: what it declares, without predicates and bodies.
func (d *drawer) class(name string) api.Class {
	c := api.Class{Name: name}
	for _, iface := range ifaceNames {
		if d.once(3) {
			c.Above = append(c.Above, iface)
		}
	}
	ahead := d.r.list[len(ifaceNames):]
	if len(ahead) > 0 && d.once(2) {
		c.Super = oneOf(d, ahead...).Name
	}
	for i := range d.Intn(4) {
		c.Fields = append(c.Fields, api.Field{Name: strings.ToLower(name) + oneOf(d, "x", "y", "z")[:1] + string(rune('0'+i)), Type: d.typ(1), Final: d.once(2)})
	}
	if len(c.Fields) > 0 || len(d.ctorParams(c.Super)) > 0 || d.once(2) {
		c.Ctors = []api.Ctor{{Params: d.named(d.types(), "k")}}
	}
	d.heads(&c)
	return c
}

func (d *drawer) ctorParams(name string) []api.Param { return d.r.ctorParams(name) }

// heads: methods of signatures that are there already, and of others.
func (d *drawer) heads(c *api.Class) {
	for range d.Intn(4) {
		m := api.Method{Name: oneOf(d, "f", "f", "f", "g"), Params: d.named(d.types(), "p")}
		sig := classes.Signature(m.Name, m.Params)
		if slices.ContainsFunc(c.Meths, func(other api.Method) bool { return classes.Signature(other.Name, other.Params) == sig }) {
			continue
		}
		if _, there := d.results[sig]; !there {
			d.results[sig] = oneOf(d, api.Type{}, d.typ(1), d.typ(1))
		}
		m.Result, m.Abstract = d.results[sig], c.Iface
		c.Meths = append(c.Meths, m)
	}
}

// complete: each class gets what the interfaces above it ask for, if nobody in its chain declares it.
func (d *drawer) complete() {
	for i := range d.r.list {
		for !d.r.list[i].Iface && d.add(&d.r.list[i]) {
		}
	}
}

// add: one method that is missing; those above have theirs already.
func (d *drawer) add(c *api.Class) bool {
	var ifaces []string
	for at, there := *c, true; there; at, there = d.r.find(at.Super) {
		ifaces = append(ifaces, at.Above...)
	}
	for len(ifaces) > 0 {
		up, _ := d.r.find(ifaces[0])
		ifaces = append(ifaces[1:], up.Above...)
		for _, m := range up.Meths {
			if !d.has(c.Name, classes.Signature(m.Name, m.Params)) {
				m.Abstract = false
				c.Meths = append(c.Meths, m)
				return true
			}
		}
	}
	return false
}

func (d *drawer) has(class, sig string) bool {
	for at, there := d.r.find(class); there; at, there = d.r.find(at.Super) {
		if slices.ContainsFunc(at.Meths, func(m api.Method) bool { return classes.Signature(m.Name, m.Params) == sig }) {
			return true
		}
	}
	return false
}

func (d *drawer) named(types []api.Type, letter string) []api.Param {
	var out []api.Param
	for i, typ := range types {
		name := letter + string(rune('0'+i))
		if d.once(12) {
			name = "v"
		}
		if !slices.ContainsFunc(out, func(p api.Param) bool { return p.Name == name }) {
			out = append(out, api.Param{Name: name, Type: typ})
		}
	}
	return out
}

func (d *drawer) types() []api.Type {
	var out []api.Type
	for range oneOf(d, 0, 1, 1, 1, 2, 2, 3) {
		out = append(out, d.typ(1))
	}
	return out
}

func operation(op string, parts ...api.Expr) api.Expr { return api.Expr{Op: op, Args: parts} }

func variable(name string) api.Expr { return api.Expr{Op: "var", Name: name} }

func numeral(text string) api.Expr { return api.Expr{Op: "num", Name: text} }

// typ: of few sorts, so that like ones are often drawn. Only elements have predicates yet.
func (d *drawer) typ(deep int) api.Type {
	switch {
	case deep > 0 && d.once(5):
		elem := d.typ(deep - 1 + d.Intn(2)*d.Intn(2))
		if d.once(3) {
			elem.Pred = []api.Expr{d.elemPred(elem)}
		}
		return api.Type{Kind: api.List, Elem: []api.Type{elem}, Null: d.once(3)}
	case d.once(2):
		return ref2(oneOf(d, "A", "A", "B", "B", "C", "D", "I", "J"), d.once(2))
	}
	return oneOf(d, anInt, anInt, aBool)
}

func ref2(name string, null bool) api.Type {
	return api.Type{Kind: api.Ref, Name: name, Null: null}
}

// elemPred: a predicate about v alone.
func (d *drawer) elemPred(t api.Type) api.Expr {
	switch t.Kind {
	case api.Int:
		return operation(">", variable("v"), numeral("0"))
	case api.Ref:
		return operation("!=", variable("v"), api.Expr{Op: "null"})
	case api.List:
		return operation(">", operation("len", variable("v")), numeral("1"))
	}
	return variable("v")
}

// filled: a class with predicates and bodies.
func (d *drawer) filled(c api.Class) api.Class {
	c.Fields, c.Ctors, c.Meths = slices.Clone(c.Fields), slices.Clone(c.Ctors), slices.Clone(c.Meths)
	this := scope{this: c.Name}
	for i := range c.Fields {
		c.Fields[i].Type = d.promising(c.Fields[i].Type, this)
	}
	if !c.Iface {
		for range d.Intn(3) {
			c.Invs = append(c.Invs, d.expr(aBool, 2, predicate(this)))
		}
	}
	for i := range c.Ctors {
		c.Ctors[i] = d.ctor(c, c.Ctors[i])
	}
	for i := range c.Meths {
		m := &c.Meths[i]
		var in scope
		m.Params, in = d.filledParams(m.Params, this)
		m.Result = d.promising(m.Result, in)
		if !c.Iface {
			m.Body, in = d.block(in, []api.Type{m.Result}, 5)
			m.Body = append(m.Body, d.end(in, m.Result, 2)...)
		}
	}
	return c
}

func predicate(sc scope) scope {
	sc.pred = true
	return sc
}

// promising: a type perhaps with a predicate.
func (d *drawer) promising(t api.Type, sc scope) api.Type {
	if t.Kind != api.Void && d.once(4) {
		sc.pred, sc.v = true, []api.Type{naked(t)}
		t.Pred = []api.Expr{d.expr(aBool, 2, sc)}
	}
	return t
}

func (d *drawer) filledParams(list []api.Param, sc scope) ([]api.Param, scope) {
	list = slices.Clone(list)
	for i, p := range list {
		list[i].Type = d.promising(p.Type, sc)
		sc.names = append(slices.Clone(sc.names), known{p.Name, p.Type, true})
	}
	return list, sc
}

// ctor: it sets the class's fields in any order, with other statements between.
func (d *drawer) ctor(c api.Class, n api.Ctor) api.Ctor {
	var in scope
	n.Params, in = d.filledParams(n.Params, scope{})
	if super := d.ctorParams(c.Super); c.Super != "" && (len(super) > 0 || d.once(2)) {
		n.HasSuper = true
		for _, p := range super {
			n.Super = append(n.Super, d.expr(p.Type, 1, in))
		}
	}
	fields := slices.Clone(c.Fields)
	d.Shuffle(len(fields), func(i, j int) { fields[i], fields[j] = fields[j], fields[i] })
	for _, f := range fields {
		if d.once(3) {
			var s api.Stmt
			s, in = d.stmt(in, nil, 1)
			n.Body = append(n.Body, s)
		}
		n.Body = append(n.Body, api.Stmt{Kind: "field", Name: f.Name, Exprs: []api.Expr{{Op: "this"}, d.expr(f.Type, 1, in)}})
	}
	rest, _ := d.block(in, nil, 2)
	n.Body = append(n.Body, rest...)
	return n
}

// end: statements that end, if there is a result.
func (d *drawer) end(sc scope, result api.Type, deep int) []api.Stmt {
	switch {
	case result.Kind == api.Void && d.once(3):
		return []api.Stmt{{Kind: "return"}}
	case result.Kind == api.Void:
		return nil
	case deep > 0 && d.once(4):
		body, in := d.block(sc, nil, 1)
		body = append(body, d.end(in, result, deep-1)...)
		return []api.Stmt{{Kind: "if", Exprs: []api.Expr{d.expr(aBool, 1, sc)}, Body: body, Else: d.end(sc, result, deep-1)}}
	}
	return []api.Stmt{{Kind: "return", Exprs: []api.Expr{d.expr(result, 2, sc)}}}
}

// block: and what there is at its end.
func (d *drawer) block(sc scope, result []api.Type, most int) ([]api.Stmt, scope) {
	var out []api.Stmt
	for range d.Intn(most + 1) {
		var s api.Stmt
		s, sc = d.stmt(sc, result, 2)
		out = append(out, s)
	}
	return out, sc
}
