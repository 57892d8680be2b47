package classes_test

import (
	"math/rand"
	"slices"
	"strings"

	"surety/api"
)

// drawer draws programs that have no fault of this layer, and makes faults in them.
type drawer struct {
	*rand.Rand
	names   []string              // of all classes that there will be
	results map[string]api.Type   // by signature: what its methods have the Base of
	params  map[string][]api.Type // by signature
	made    book                  // each behind those that are above it
}

func newDrawer(r *rand.Rand) *drawer {
	return &drawer{Rand: r, results: map[string]api.Type{}, params: map[string][]api.Type{}}
}

func (d *drawer) once(times int) bool { return d.Intn(times) == 0 }

func oneOf[T any](d *drawer, list ...T) T { return list[d.Intn(len(list))] }

// right: a program without faults, its classes in any order.
func (d *drawer) right() api.Program {
	d.names = strings.Fields("A B C D E F G H a b aa I J K L M N O P Q _1 Z9")
	d.Shuffle(len(d.names), func(i, j int) { d.names[i], d.names[j] = d.names[j], d.names[i] })
	d.names = d.names[:d.Intn(len(d.names))]
	for _, name := range d.names {
		if d.once(2) {
			d.made = append(d.made, d.iface(name))
		} else {
			d.made = append(d.made, d.class(name))
		}
	}
	p := api.Program{Classes: slices.Clone(d.made), Main: d.block()}
	d.Shuffle(len(p.Classes), func(i, j int) { p.Classes[i], p.Classes[j] = p.Classes[j], p.Classes[i] })
	return p
}

// some: names of classes, or of interfaces, that are made; perhaps one several times.
func (d *drawer) some(iface bool, most int) []string {
	var all, out []string
	for _, c := range d.made {
		if c.Iface == iface {
			all = append(all, c.Name)
		}
	}
	for range d.Intn(most + 1) {
		if len(all) > 0 {
			out = append(out, oneOf(d, all...))
		}
	}
	return out
}

func (d *drawer) iface(name string) api.Class {
	c := api.Class{Name: name, Iface: true, Above: d.some(true, 3)}
	d.methods(&c)
	return c
}

func (d *drawer) class(name string) api.Class {
	c := api.Class{Name: name, Above: d.some(true, 2)}
	if supers := d.some(false, 3); len(supers) > 0 {
		c.Super = supers[0]
	}
	for range d.Intn(4) {
		f := api.Field{Name: oneOf(d, "x", "y", "z", "u", "w", "f", "A"), Type: d.typ(2), Final: d.once(2)}
		_, _, above := d.made.field(c.Super, f.Name)
		if !above && !slices.ContainsFunc(c.Fields, func(g api.Field) bool { return g.Name == f.Name }) {
			c.Fields = append(c.Fields, f)
		}
	}
	for range d.Intn(3) {
		c.Invs = append(c.Invs, d.expr(2))
	}
	if d.once(2) {
		n := api.Ctor{Params: d.named(d.types()), Body: d.block()}
		if n.HasSuper = d.once(2); n.HasSuper {
			n.Super = []api.Expr{d.expr(1), d.expr(1)}
		}
		c.Ctors = []api.Ctor{n}
	}
	d.methods(&c)
	d.complete(&c)
	return c
}

// complete: what the interfaces above c ask for and nobody in its chain declares.
func (d *drawer) complete(c *api.Class) {
	whole := append(slices.Clone(d.made), *c)
	for _, name := range whole.above(c.Name) {
		up, _ := whole.find(name)
		for _, m := range up.Meths {
			sig := signature(m)
			if _, there := append(slices.Clone(d.made), *c).dispatch(c.Name, sig); up.Iface && !there {
				c.Meths = append(c.Meths, d.method(m.Name, sig, false))
			}
		}
	}
}

// methods: of signatures that are there already, and of others.
func (d *drawer) methods(c *api.Class) {
	for range d.Intn(4) {
		name := oneOf(d, "f", "f", "g", "h", "F", "f1", "x", "A")
		m := api.Method{Name: name}
		types := d.types()
		for _, typ := range types {
			m.Params = append(m.Params, api.Param{Type: typ})
		}
		sig := signature(m)
		if _, there := own(*c, sig); there {
			continue
		}
		if _, there := d.params[sig]; !there {
			d.params[sig], d.results[sig] = types, d.result()
		}
		c.Meths = append(c.Meths, d.method(name, sig, c.Iface))
	}
}

// method: of a signature that is there, with other promises.
func (d *drawer) method(name, sig string, abstract bool) api.Method {
	var types []api.Type
	for _, typ := range d.params[sig] {
		types = append(types, d.alike(typ))
	}
	m := api.Method{Name: name, Params: d.named(types), Result: d.alike(d.results[sig]), Abstract: abstract}
	if !abstract {
		m.Body = d.block()
	}
	return m
}

// named: parameters of these types, their names all unlike.
func (d *drawer) named(types []api.Type) []api.Param {
	names := strings.Fields("a b c x y A f")
	d.Shuffle(len(names), func(i, j int) { names[i], names[j] = names[j], names[i] })
	var out []api.Param
	for i, typ := range types {
		out = append(out, api.Param{Name: names[i], Type: typ})
	}
	return out
}

func (d *drawer) types() []api.Type {
	var out []api.Type
	for range oneOf(d, 0, 0, 1, 1, 2, 3) {
		out = append(out, d.typ(2))
	}
	return out
}

func (d *drawer) result() api.Type {
	if d.once(4) {
		return api.Type{}
	}
	return d.typ(2)
}

// typ: a type of few sorts, so that like ones are often drawn.
func (d *drawer) typ(deep int) api.Type {
	t := api.Type{Kind: oneOf(d, api.Int, api.Bool)}
	switch {
	case deep > 0 && d.once(4):
		t = api.Type{Kind: api.List, Elem: []api.Type{d.typ(deep - 1)}}
	case d.once(2) && len(d.names) > 0:
		t = api.Type{Kind: api.Ref, Name: d.names[d.Intn(min(3, len(d.names)))]}
	}
	return d.alike(t)
}

// alike: a type of the same Base.
func (d *drawer) alike(t api.Type) api.Type {
	if t.Kind == api.Void {
		return t
	}
	t.Null = d.once(2) && (t.Kind == api.Ref || t.Kind == api.List)
	t.Pred = nil
	if d.once(4) {
		t.Pred = []api.Expr{oneOf(d, api.Expr{Op: "true"}, api.Expr{Op: "=>", Args: []api.Expr{variable("v"), variable("nobody")}})}
	}
	return t
}

func variable(name string) api.Expr { return api.Expr{Op: "var", Name: name} }

func (d *drawer) expr(deep int) api.Expr {
	if deep == 0 {
		return oneOf(d, variable("x"), api.Expr{Op: "num", Name: "7"}, api.Expr{Op: "this"}, api.Expr{Op: "null"}, api.Expr{Op: "read"})
	}
	switch d.Intn(4) {
	case 0:
		return api.Expr{Op: oneOf(d, "+", "&&", "=="), Args: []api.Expr{d.expr(deep - 1), d.expr(0)}}
	case 1:
		return api.Expr{Op: "call", Name: "f", Args: []api.Expr{d.expr(deep - 1), d.expr(0)}}
	case 2:
		return api.Expr{Op: "list", Type: []api.Type{d.typ(1)}, Args: []api.Expr{d.expr(deep - 1), d.expr(0)}}
	}
	return d.expr(deep - 1)
}

func (d *drawer) block() []api.Stmt {
	var out []api.Stmt
	for range d.Intn(3) {
		s := api.Stmt{Kind: "let", Name: "x", Type: []api.Type{d.typ(1)}, Exprs: []api.Expr{d.expr(1)}}
		if d.once(3) {
			s = api.Stmt{Kind: "if", Exprs: []api.Expr{d.expr(1)}, Body: []api.Stmt{s}, Else: []api.Stmt{{Kind: "return"}}}
		}
		out = append(out, s)
	}
	return out
}
