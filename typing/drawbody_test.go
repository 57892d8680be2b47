package typing_test

import (
	"slices"

	"surety/api"
)

// stmt: and what there is behind it.
func (d *drawer) stmt(sc scope, result []api.Type, deep int) (api.Stmt, scope) {
	switch d.Intn(11) {
	case 0, 1, 2:
		return d.let(sc)
	case 3:
		if s, there := d.set(sc); there {
			return s, sc
		}
	case 4:
		if s, there := d.setField(sc); there {
			return s, sc
		}
	case 5:
		elem := d.typ(1)
		list := api.Type{Kind: api.List, Elem: []api.Type{elem}}
		return api.Stmt{Kind: "elem", Exprs: []api.Expr{d.object(list, 2, sc), d.expr(anInt, 1, sc), d.expr(elem, 1, sc)}}, sc
	case 6:
		if deep > 0 {
			s := api.Stmt{Kind: "if", Exprs: []api.Expr{d.expr(aBool, 2, sc)}, Body: d.inner(sc, result, deep)}
			if d.once(2) {
				s.Else = d.inner(sc, result, deep)
			}
			return s, sc
		}
	case 7:
		if deep > 0 {
			s := api.Stmt{Kind: "while", Exprs: []api.Expr{d.expr(aBool, 2, sc)}, Body: d.inner(sc, result, deep)}
			for range d.Intn(3) {
				s.Exprs = append(s.Exprs, d.expr(aBool, 2, predicate(sc)))
			}
			return s, sc
		}
	case 8:
		return api.Stmt{Kind: "do", Exprs: []api.Expr{d.expr(oneOf(d, api.Type{}, d.typ(1)), 2, sc)}}, sc
	case 9:
		return api.Stmt{Kind: "assert", Exprs: []api.Expr{d.expr(aBool, 2, sc)}}, sc
	}
	return api.Stmt{Kind: "print", Exprs: []api.Expr{d.expr(anInt, 2, sc)}}, sc
}

func (d *drawer) inner(sc scope, result []api.Type, deep int) []api.Stmt {
	var out []api.Stmt
	for range d.Intn(3) {
		var s api.Stmt
		s, sc = d.stmt(sc, result, deep-1)
		out = append(out, s)
	}
	if len(result) == 1 && d.once(4) {
		out = append(out, d.end(sc, result[0], 0)...)
	}
	return out
}

func (d *drawer) let(sc scope) (api.Stmt, scope) {
	t := d.typ(1)
	s := api.Stmt{Kind: "let", Name: oneOf(d, "y", "z", "w", "t", "u", "s", "v", "q")}
	for range 6 {
		if !slices.ContainsFunc(sc.names, func(k known) bool { return k.name == s.Name }) {
			break
		}
		s.Name = oneOf(d, "y", "z", "w", "t", "u", "s", "v", "q", "o", "r", "a", "b")
	}
	e := d.expr(t, 2, sc)
	s.Exprs = []api.Expr{e}
	if own, f := d.r.expr(e, sc); f == ok && d.once(2) && typeOf(own).Kind != api.Nil {
		t = typeOf(own)
	} else {
		in := sc
		in.names = slices.DeleteFunc(slices.Clone(sc.names), func(k known) bool { return !k.param })
		s.Type = []api.Type{d.promising(t, in)}
	}
	sc.names = append(slices.Clone(sc.names), known{s.Name, t, false})
	return s, sc
}

func (d *drawer) set(sc scope) (api.Stmt, bool) {
	var lets []known
	for _, k := range sc.names {
		if !k.param || d.once(4*d.slips) {
			lets = append(lets, k)
		}
	}
	if len(lets) == 0 {
		return api.Stmt{}, false
	}
	k := oneOf(d, lets...)
	return api.Stmt{Kind: "set", Name: k.name, Exprs: []api.Expr{d.expr(k.typ, 2, sc)}}, true
}

func (d *drawer) setField(sc scope) (api.Stmt, bool) {
	var all []api.Stmt
	for _, c := range d.r.list {
		for _, f := range c.Fields {
			if !f.Final || d.once(4*d.slips) {
				all = append(all, api.Stmt{Kind: "field", Name: f.Name, Exprs: []api.Expr{d.object(ref(c.Name), 1, sc), d.expr(f.Type, 2, sc)}})
			}
		}
	}
	if len(all) == 0 {
		return api.Stmt{}, false
	}
	return oneOf(d, all...), true
}

// expr: one that fits a type, but for slips.
func (d *drawer) expr(want api.Type, deep int, sc scope) api.Expr {
	if d.once(d.slips) {
		return d.anything(sc)
	}
	if deep == 0 || d.once(4) {
		return d.leaf(want, sc)
	}
	var ways []func() api.Expr
	for _, c := range d.r.list {
		ways = append(ways, d.waysThrough(c, want, deep, sc)...)
	}
	if want.Kind == api.Int || want.Kind == api.Bool || len(ways) == 0 || d.once(3) {
		return d.combined(want, deep, sc)
	}
	return oneOf(d, ways...)()
}

// waysThrough: fields and calls of objects of a class, and new ones.
func (d *drawer) waysThrough(c api.Class, want api.Type, deep int, sc scope) []func() api.Expr {
	var ways []func() api.Expr
	if len(d.there(ref(c.Name), sc)) == 0 && (sc.pred || len(d.made(ref(c.Name))) == 0) {
		return nil
	}
	for _, f := range c.Fields {
		if d.r.fits(naked(f.Type), want) && (!sc.pred || f.Final) {
			ways = append(ways, func() api.Expr {
				return api.Expr{Op: "field", Name: f.Name, Args: []api.Expr{d.object(ref(c.Name), deep-1, sc)}}
			})
		}
	}
	if sc.pred {
		return ways
	}
	for _, m := range c.Meths {
		if d.r.fits(naked(m.Result), want) || want.Kind == api.Void && m.Result.Kind == api.Void {
			ways = append(ways, func() api.Expr {
				parts := []api.Expr{d.object(ref(c.Name), deep-1, sc)}
				for _, p := range m.Params {
					parts = append(parts, d.argument(p.Type, deep-1, sc))
				}
				return api.Expr{Op: "call", Name: m.Name, Args: parts}
			})
		}
	}
	if !c.Iface && d.r.fits(ref(c.Name), want) {
		ways = append(ways, func() api.Expr {
			e := api.Expr{Op: "new", Name: c.Name}
			for _, p := range d.ctorParams(c.Name) {
				e.Args = append(e.Args, d.expr(p.Type, deep-1, sc))
			}
			return e
		})
	}
	return ways
}

// argument: seldom null, which fits more methods than one.
func (d *drawer) argument(want api.Type, deep int, sc scope) api.Expr {
	if d.once(8) {
		return d.expr(want, deep, sc)
	}
	return d.object(want, deep, sc)
}

// object: of a class, or a list, that is asked for something, so that null won't do.
func (d *drawer) object(want api.Type, deep int, sc scope) api.Expr {
	e := d.expr(want, deep, sc)
	if e.Op != "null" {
		return e
	}
	if all := d.there(want, sc); len(all) > 0 {
		return oneOf(d, all...)
	}
	if want.Kind == api.List {
		return api.Expr{Op: "list", Type: want.Elem, Args: []api.Expr{numeral("1"), d.leaf(want.Elem[0], sc)}}
	}
	made := d.made(want)
	if len(made) == 0 {
		return e
	}
	c := oneOf(d, made...)
	e = api.Expr{Op: "new", Name: c.Name}
	for _, p := range d.ctorParams(c.Name) {
		e.Args = append(e.Args, d.leaf(p.Type, sc))
	}
	return e
}

// made: classes whose objects fit.
func (d *drawer) made(want api.Type) []api.Class {
	var made []api.Class
	for _, c := range d.r.list {
		if !c.Iface && d.r.fits(ref(c.Name), want) {
			made = append(made, c)
		}
	}
	return made
}

// there: names and this that fit.
func (d *drawer) there(want api.Type, sc scope) []api.Expr {
	var all []api.Expr
	if len(sc.v) > 0 && d.r.fits(sc.v[0], want) {
		all = append(all, variable("v"))
	}
	for _, k := range sc.names {
		if (k.name != "v" || len(sc.v) == 0) && d.r.fits(naked(k.typ), want) {
			all = append(all, variable(k.name))
		}
	}
	if sc.this != "" && d.r.fits(ref(sc.this), want) {
		all = append(all, api.Expr{Op: "this"})
	}
	return all
}

// leaf: without parts.
func (d *drawer) leaf(want api.Type, sc scope) api.Expr {
	all := d.there(want, sc)
	if len(all) > 0 && !d.once(5) {
		return oneOf(d, all...)
	}
	switch want.Kind {
	case api.Int:
		return numeral(oneOf(d, "0", "1", "7", "123456789012345678901234567890"))
	case api.Bool:
		return api.Expr{Op: oneOf(d, "true", "false")}
	}
	return api.Expr{Op: "null"}
}

// combined: of parts whose types the sort alone says.
func (d *drawer) combined(want api.Type, deep int, sc scope) api.Expr {
	deep--
	if !sc.pred && d.once(8) && want.Kind != api.Void {
		elem := api.Type{Kind: want.Kind, Name: want.Name, Elem: want.Elem}
		if d.once(2) {
			elem.Pred = []api.Expr{d.elemPred(elem)}
		}
		return operation("index", d.object(api.Type{Kind: api.List, Elem: []api.Type{elem}}, deep, sc), d.expr(anInt, deep, sc))
	}
	switch want.Kind {
	case api.Int:
		switch {
		case d.once(8):
			return operation("neg", d.expr(anInt, deep, sc))
		case d.once(8):
			if list, there := d.aList(sc); there {
				return operation("len", list)
			}
		case d.once(10) && !sc.pred:
			return oneOf(d, api.Expr{Op: "read"}, operation("/", d.expr(anInt, deep, sc), numeral("2")), operation("%", numeral("2"), d.expr(anInt, deep, sc)))
		}
		return operation(oneOf(d, "+", "-", "*"), d.expr(anInt, deep, sc), d.expr(anInt, deep, sc))
	case api.Bool:
		t := oneOf(d, anInt, aBool, d.typ(1))
		switch {
		case d.once(6):
			return operation("not", d.expr(aBool, deep, sc))
		case d.once(3):
			return operation(oneOf(d, "==", "!="), d.expr(t, deep, sc), d.expr(t, deep, sc))
		case d.once(3):
			return operation(oneOf(d, "&&", "||"), d.expr(aBool, deep, sc), d.expr(aBool, deep, sc))
		case d.once(3) && sc.pred:
			return operation("=>", d.expr(aBool, deep, sc), d.expr(aBool, deep, sc))
		}
		return operation(oneOf(d, "<", "<=", ">", ">="), d.expr(anInt, deep, sc), d.expr(anInt, deep, sc))
	case api.List:
		if !sc.pred {
			return api.Expr{Op: "list", Type: want.Elem, Args: []api.Expr{d.expr(anInt, deep, sc), d.expr(want.Elem[0], deep, sc)}}
		}
	}
	return d.leaf(want, sc)
}

// aList: one that is there, or one that is made.
func (d *drawer) aList(sc scope) (api.Expr, bool) {
	var all []api.Expr
	for _, k := range append(slices.Clone(sc.names), known{name: "v", typ: append(slices.Clone(sc.v), anInt)[0]}) {
		if k.typ.Kind == api.List && (k.name != "v" || len(sc.v) == 0 || sc.v[0].Kind == api.List) {
			all = append(all, variable(k.name))
		}
	}
	if !sc.pred {
		t := d.typ(1)
		all = append(all, api.Expr{Op: "list", Type: []api.Type{t}, Args: []api.Expr{numeral("2"), d.leaf(t, sc)}})
	}
	if len(all) == 0 {
		return api.Expr{}, false
	}
	return oneOf(d, all...), true
}

// anything: mostly at fault where it stands.
func (d *drawer) anything(sc scope) api.Expr {
	one, t := numeral("1"), oneOf(d, d.typ(1), ref("Nobody"))
	some := func() api.Expr { return d.expr(oneOf(d, anInt, aBool, t), 1, sc) }
	switch d.Intn(14) {
	case 0:
		return variable(oneOf(d, "nobody", "v", "k0", "y"))
	case 1:
		return api.Expr{Op: oneOf(d, "this", "null", "read", "true")}
	case 2:
		return operation(oneOf(d, "=>", "/", "%", "&&", "+", "<", "=="), some(), some())
	case 3:
		return operation(oneOf(d, "neg", "not", "len"), some())
	case 4:
		return api.Expr{Op: "field", Name: oneOf(d, "ax0", "by0", "cz0", "nobody"), Args: []api.Expr{d.expr(ref("C"), 1, sc)}}
	case 5:
		return api.Expr{Op: "call", Name: oneOf(d, "f", "g"), Args: []api.Expr{some(), one}}
	case 6, 7, 8:
		null := api.Expr{Op: "null"}
		return api.Expr{Op: "call", Name: oneOf(d, "f", "g"), Args: append([]api.Expr{d.object(ref(oneOf(d, "A", "B", "C", "D")), 1, sc)}, oneOf(d, nil, []api.Expr{null}, []api.Expr{null, null}, []api.Expr{null, one})...)}
	case 9:
		return api.Expr{Op: "new", Name: oneOf(d, "A", "D", "I", "Nobody"), Args: oneOf(d, nil, []api.Expr{one}, []api.Expr{some()})}
	case 10:
		return operation("index", some(), some())
	case 11:
		t.Pred = []api.Expr{some()}
		return api.Expr{Op: "list", Type: []api.Type{t}, Args: []api.Expr{one, one}}
	case 12:
		return api.Expr{Op: "list", Type: []api.Type{t}, Args: []api.Expr{some(), d.expr(t, 1, sc)}}
	}
	return d.expr(d.typ(1), 2, sc)
}
