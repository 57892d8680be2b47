package typing

import (
	"surety/api"
	"surety/classes"
)

// giveUp is what a checker panics with, a type of its own so that nothing else is taken for a fault of the program.
type giveUp struct {
	api.Fault
}

// refuse: gives up, if it is so.
func refuse(is bool, code api.Errno, at int) {
	if is {
		panic(giveUp{api.Fault{Code: code, At: at}})
	}
}

// checker goes through a program, a copy of its own, and writes types and the names of calls into it. The types that it writes share their elements' types with those that the program declares: so these have what is written into them later, too, and take no room.
type checker struct {
	program   api.Program
	table     *classes.Table
	homes     map[string]*home
	fields    map[[2]string]*api.Field // by the class that is asked and the name; nil: it has none
	overloads map[[2]string][]method   // likewise
	bases     map[*api.Type]base       // of lists, by their elements' type

	self   string          // the class whose parts are looked at
	names  map[string]name // those that are there
	here   sight           // of what stands in the body
	result *api.Type       // of the method; none where nothing is returned
}

// home is a class, and where it declares what.
type home struct {
	decl    *api.Class
	fields  map[string]*api.Field
	methods map[string]*api.Method // by signature
}

// method is one of a class, by its signature.
type method struct {
	sig  string
	decl *api.Method
}

// base is a type's Base.
type base struct {
	text string
}

// name is a parameter, or one of let.
type name struct {
	typ   api.Type
	param bool
}

func newTable(p api.Program) *classes.Table {
	table, f := classes.New(p)
	refuse(f.Code != api.OK, f.Code, f.At)
	return table
}

// newChecker: of a program whose classes have no fault.
func newChecker(p api.Program) *checker {
	c := &checker{
		program:   p,
		table:     newTable(api.Program{Classes: heads(p.Classes)}),
		homes:     map[string]*home{},
		fields:    map[[2]string]*api.Field{},
		overloads: map[[2]string][]method{},
		bases:     map[*api.Type]base{},
		names:     map[string]name{},
	}
	for i := range p.Classes {
		c.homes[p.Classes[i].Name] = newHome(&p.Classes[i])
	}
	return c
}

// heads: classes without bodies, since a table copies what it answers.
func heads(list []api.Class) []api.Class {
	var out []api.Class
	for _, decl := range list {
		decl.Ctors = append([]api.Ctor{}, decl.Ctors...)
		for i := range decl.Ctors {
			decl.Ctors[i].Body = nil
		}
		decl.Meths = append([]api.Method{}, decl.Meths...)
		for i := range decl.Meths {
			decl.Meths[i].Body = nil
		}
		out = append(out, decl)
	}
	return out
}

func newHome(decl *api.Class) *home {
	h := &home{decl: decl, fields: map[string]*api.Field{}, methods: map[string]*api.Method{}}
	for i := range decl.Fields {
		h.fields[decl.Fields[i].Name] = &decl.Fields[i]
	}
	for i := range decl.Meths {
		m := &decl.Meths[i]
		h.methods[classes.Signature(m.Name, m.Params)] = m
	}
	return h
}

// field: one that a class has, with what is written into it; nil: it has none.
func (c *checker) field(class, name string) *api.Field {
	key := [2]string{class, name}
	f, asked := c.fields[key]
	if !asked {
		_, owner, there := c.table.Field(class, name)
		if there && !c.homes[class].decl.Iface {
			f = c.homes[owner].fields[name]
		}
		c.fields[key] = f
	}
	return f
}

// methods: those of a name that a class has.
func (c *checker) methods(class, name string) []method {
	key := [2]string{class, name}
	list, asked := c.overloads[key]
	if !asked {
		for _, m := range c.table.Overloads(class, name) {
			list = append(list, method{sig: m.Sig, decl: c.homes[m.Owner].methods[m.Sig]})
		}
		c.overloads[key] = list
	}
	return list
}

// made: the parameters of a class's ctor; none of one without a ctor, and of no class.
func (c *checker) made(class string) []api.Param {
	h := c.homes[class]
	if h == nil || len(h.decl.Ctors) == 0 {
		return nil
	}
	return h.decl.Ctors[0].Params
}

// fits: as Fits, but that each list's Base is reckoned once, since predicates in it may be long.
func (c *checker) fits(from, to api.Type) bool {
	if from.Kind == api.List && to.Kind == api.List {
		return c.base(from) == c.base(to)
	}
	return Fits(c.table, from, to)
}

func (c *checker) base(list api.Type) base {
	if len(list.Elem) == 0 {
		return base{classes.Base(list)}
	}
	key := &list.Elem[0]
	found, asked := c.bases[key]
	if !asked {
		found = base{classes.Base(list)}
		c.bases[key] = found
	}
	return found
}

// fitEach: are there as many parts as parameters, and does each one fit its own?
func (c *checker) fitEach(parts []api.Expr, params []api.Param) bool {
	if len(parts) != len(params) {
		return false
	}
	for i, p := range params {
		if !c.fits(of(parts[i]), p.Type) {
			return false
		}
	}
	return true
}
