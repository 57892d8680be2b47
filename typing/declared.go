package typing

import "surety/api"

// reach is which names are there: those of a body of which a predicate may have some alone.
type reach int

const (
	noNames reach = iota
	paramNames
	allNames
)

// sight is what an expression may name, and whether it is a predicate's.
type sight struct {
	names reach
	this  bool
	pred  bool
	value *api.Type // what v is in a type's predicate; nil elsewhere
}

// check: class by class, and then main.
func (c *checker) check() {
	for i := range c.program.Classes {
		c.class(&c.program.Classes[i])
	}
	clear(c.names)
	c.here, c.result = sight{names: allNames}, nil
	c.block(c.program.Main)
}

func (c *checker) class(decl *api.Class) {
	c.self = decl.Name
	for i := range decl.Fields {
		c.typ(&decl.Fields[i].Type, sight{this: true})
	}
	for i := range decl.Invs {
		c.predicate(&decl.Invs[i], sight{this: true})
	}
	if len(decl.Ctors) == 0 && !decl.Iface {
		refuse(len(decl.Fields) > 0, api.ErrInit, decl.At)
		refuse(len(c.made(decl.Super)) > 0, api.ErrNoMethod, decl.At)
	}
	for i := range decl.Ctors {
		c.ctor(decl, &decl.Ctors[i])
	}
	for i := range decl.Meths {
		c.method(&decl.Meths[i])
	}
}

// typ: a type that is written so, its parts first. Elements are asked apart from what is round them: so their predicates have v alone.
func (c *checker) typ(t *api.Type, s sight) {
	if t.Kind == api.List {
		for i := range t.Elem {
			c.typ(&t.Elem[i], sight{})
		}
	}
	if len(t.Pred) == 0 {
		return
	}
	value := bare(*t)
	s.value = &value
	for i := range t.Pred {
		c.predicate(&t.Pred[i], s)
	}
}

func (c *checker) predicate(e *api.Expr, s sight) {
	s.pred = true
	c.mustFit(e, api.Type{Kind: api.Bool}, s)
}

// params: from each one's place on its name is there.
func (c *checker) params(list []api.Param, s sight) {
	clear(c.names)
	for i := range list {
		p := &list[i]
		c.typ(&p.Type, s)
		c.names[p.Name] = name{typ: p.Type, param: true}
	}
}

func (c *checker) method(m *api.Method) {
	s := sight{names: allNames, this: true}
	c.params(m.Params, s)
	c.typ(&m.Result, s)
	c.here, c.result = s, &m.Result
	c.block(m.Body)
	refuse(!m.Abstract && m.Result.Kind != api.Void && !end(m.Body), api.ErrReturn, m.At)
}

// end: does each way through statements come to a return?
func end(list []api.Stmt) bool {
	for _, s := range list {
		if s.Kind == "return" || s.Kind == "if" && end(s.Body) && end(s.Else) {
			return true
		}
	}
	return false
}

func (c *checker) ctor(decl *api.Class, n *api.Ctor) {
	c.here, c.result = sight{names: allNames}, nil
	c.params(n.Params, c.here)
	c.super(decl, n)
	set := map[string]int{}
	for i := range n.Body {
		if s := &n.Body[i]; setsOwn(*s) {
			c.setOwn(decl, s, set)
		} else {
			c.stmt(s)
		}
	}
	for _, f := range decl.Fields {
		refuse(set[f.Name] == 0, api.ErrInit, n.At)
	}
}

// super: where it isn't told, it has no arguments.
func (c *checker) super(decl *api.Class, n *api.Ctor) {
	var args []api.Expr
	if n.HasSuper {
		args = n.Super
	}
	c.exprs(args, c.here)
	refuse(n.HasSuper && decl.Super == "", api.ErrNoMethod, n.At)
	refuse(!c.fitEach(args, c.made(decl.Super)), api.ErrNoMethod, n.At)
}

// setsOwn: at a ctor's top, is it how a field of the object that is made is set?
func setsOwn(s api.Stmt) bool {
	return s.Kind == "field" && len(s.Exprs) == 2 && s.Exprs[0].Op == "this"
}

// setOwn: set counts how often each field was set ahead. Here alone may a ctor name this.
func (c *checker) setOwn(decl *api.Class, s *api.Stmt, set map[string]int) {
	f := c.homes[decl.Name].fields[s.Name]
	refuse(f == nil || set[s.Name] > 0, api.ErrInit, s.At)
	set[s.Name]++
	c.expr(&s.Exprs[0], sight{this: true})
	c.mustFit(&s.Exprs[1], f.Type, c.here)
}
