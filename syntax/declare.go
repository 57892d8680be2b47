package syntax

import "surety/api"

func (r *reader) program() api.Program {
	var p api.Program
	for !r.passes("main") {
		p.Classes = append(p.Classes, r.class())
	}
	p.Main = r.block()
	if r.taken < len(r.tokens) {
		panic(r.fault(api.ErrSyntax))
	}
	return p
}

// class: a class, or an interface.
func (r *reader) class() api.Class {
	if r.passes("interface") {
		return r.iface()
	}
	r.want("class")
	name := r.name()
	c := api.Class{Name: name.Text, At: name.At}
	if r.passes("extends") {
		c.Super = r.nameText()
	}
	if r.passes("implements") {
		c.Above = commas(r, r.nameText)
	}
	r.want("{")
	for !r.passes("}") {
		r.member(&c)
	}
	return c
}

// iface: an interface, from its name on.
func (r *reader) iface() api.Class {
	name := r.name()
	c := api.Class{Name: name.Text, Iface: true, At: name.At}
	if r.passes("extends") {
		c.Above = commas(r, r.nameText)
	}
	c.Meths = curly(r, r.abstract)
	return c
}

// member: one of c, put among those of its sort.
func (r *reader) member(c *api.Class) {
	switch r.next().Text {
	case "final", "var":
		c.Fields = append(c.Fields, r.field())
	case "invariant":
		r.take()
		c.Invs = append(c.Invs, r.lastExpr()...)
	case "new":
		c.Ctors = append(c.Ctors, r.ctor())
	default:
		c.Meths = append(c.Meths, r.method())
	}
}

func (r *reader) field() api.Field {
	final := r.take().Text == "final"
	p := r.param()
	r.want(";")
	return api.Field{Name: p.Name, Type: p.Type, Final: final, At: p.At}
}

func (r *reader) ctor() api.Ctor {
	c := api.Ctor{At: r.take().At}
	c.Params = round(r, r.param)
	if r.passes("super") {
		c.HasSuper = true
		c.Super = round(r, r.expr)
	}
	c.Body = r.block()
	return c
}

func (r *reader) method() api.Method {
	m := r.head()
	m.Body = r.block()
	return m
}

// abstract: a method without a body.
func (r *reader) abstract() api.Method {
	m := r.head()
	m.Abstract = true
	r.want(";")
	return m
}

func (r *reader) head() api.Method {
	r.want("def")
	name := r.name()
	m := api.Method{Name: name.Text, At: name.At}
	m.Params = round(r, r.param)
	r.want(":")
	m.Result = r.result()
	return m
}

func (r *reader) result() api.Type {
	if r.sees("void") {
		return api.Type{Kind: api.Void, At: r.take().At}
	}
	return r.typ()
}

// param: a name and its type, as a field has them too.
func (r *reader) param() api.Param {
	name := r.name()
	r.want(":")
	return api.Param{Name: name.Text, Type: r.typ(), At: name.At}
}

func (r *reader) typ() api.Type { return nested(r, r.wholeType) }

func (r *reader) wholeType() api.Type {
	t := r.plainType()
	t.Pred = r.pred()
	for r.sees("[") {
		t = api.Type{Kind: api.List, Elem: []api.Type{t}, At: r.take().At}
		r.want("]")
		t.Null = r.passes("?")
		t.Pred = r.pred()
	}
	return t
}

// plainType: a type that is no list, without its predicate.
func (r *reader) plainType() api.Type {
	at := r.next().At
	switch {
	case r.passes("int"):
		return api.Type{Kind: api.Int, At: at}
	case r.passes("bool"):
		return api.Type{Kind: api.Bool, At: at}
	}
	t := api.Type{Kind: api.Ref, Name: r.nameText(), At: at}
	t.Null = r.passes("?")
	return t
}

// pred: none or one. A block may stand behind a type too, so that it takes three tokens to tell.
func (r *reader) pred() []api.Expr {
	if !r.sees("{", "v", "|") {
		return nil
	}
	r.taken += 3
	e := r.expr()
	r.want("}")
	return []api.Expr{e}
}
