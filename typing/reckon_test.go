package typing_test

import (
	"slices"
	"strings"

	"surety/api"
	"surety/classes"
	"surety/syntax"
)

// reckoner goes through a program by the chapter's words. It answers trees whose expressions have their types, but not those in the elements of these types.
type reckoner struct {
	list  []api.Class
	table *classes.Table
}

// known is a name that is there.
type known struct {
	name  string
	typ   api.Type
	param bool
}

// scope is what there is where an expression stands.
type scope struct {
	names []known
	this  string // the class; "": this isn't there
	pred  bool
	v     []api.Type // in a type's predicate
}

var ok api.Fault

func told(code api.Errno, at int) api.Fault { return api.Fault{Code: code, At: at} }

var anInt, aBool, aNil = api.Type{Kind: api.Int}, api.Type{Kind: api.Bool}, api.Type{Kind: api.Nil}

func ref(name string) api.Type { return api.Type{Kind: api.Ref, Name: name} }

// naked: a type as an expression has it, but that the predicates of elements have no types.
func naked(t api.Type) api.Type {
	return api.Type{Kind: t.Kind, Name: t.Name, Elem: untyped(t).Elem}
}

// untyped: a type whose predicates' expressions have no types.
func untyped(t api.Type) api.Type {
	t.Elem, t.Pred = slices.Clone(t.Elem), slices.Clone(t.Pred)
	for i := range t.Elem {
		t.Elem[i] = untyped(t.Elem[i])
	}
	for i := range t.Pred {
		t.Pred[i] = plain(t.Pred[i])
	}
	return t
}

// plain: a predicate whose expressions have no types.
func plain(e api.Expr) api.Expr {
	e.Type, e.Args = nil, slices.Clone(e.Args)
	for i := range e.Args {
		e.Args[i] = plain(e.Args[i])
	}
	return e
}

// reckoned: the typed program, or the first fault.
func reckoned(p api.Program) (api.Program, api.Fault) {
	table, f := classes.New(p)
	if f != ok {
		return api.Program{}, f
	}
	r := reckoner{p.Classes, table}
	var out api.Program
	for _, c := range p.Classes {
		if c, f = r.class(c); f != ok {
			return api.Program{}, f
		}
		out.Classes = append(out.Classes, c)
	}
	out.Main, f = r.stmts(p.Main, nil, scope{})
	if f != ok {
		return api.Program{}, f
	}
	return out, ok
}

func (r reckoner) find(name string) (api.Class, bool) {
	for _, c := range r.list {
		if c.Name == name {
			return c, true
		}
	}
	return api.Class{}, false
}

// fits: P13.1.
func (r reckoner) fits(from, to api.Type) bool {
	switch {
	case from.Kind == api.Nil:
		return to.Kind == api.Ref || to.Kind == api.List
	case from.Kind == api.Ref && to.Kind == api.Ref:
		_, there := r.find(from.Name)
		return there && (from.Name == to.Name || slices.Contains(r.table.Above(from.Name), to.Name))
	case from.Kind == api.List && to.Kind == api.List:
		return syntax.TypeText(from.Elem[0]) == syntax.TypeText(to.Elem[0])
	}
	return from.Kind == to.Kind && (from.Kind == api.Int || from.Kind == api.Bool)
}

// typeOf: P13.1's Of, of a tree as a reckoner answers it.
func typeOf(e api.Expr) api.Type {
	if e.Op == "list" {
		return api.Type{Kind: api.List, Elem: e.Type}
	}
	return e.Type[0]
}

// fitParts: are the parts as many as the parameters, and does each fit?
func (r reckoner) fitParts(parts []api.Expr, params []api.Param) bool {
	fit := len(parts) == len(params)
	for i := 0; fit && i < len(parts); i++ {
		fit = r.fits(typeOf(parts[i]), params[i].Type)
	}
	return fit
}

// ctorParams: those of a class's ctor, if there are such.
func (r reckoner) ctorParams(name string) []api.Param {
	c, _ := r.find(name)
	if len(c.Ctors) == 1 {
		return c.Ctors[0].Params
	}
	return nil
}

// field: P12.4, by walking up.
func (r reckoner) field(class, name string) (api.Field, bool) {
	for c, there := r.find(class); there && !c.Iface; c, there = r.find(c.Super) {
		for _, f := range c.Fields {
			if f.Name == name {
				return f, true
			}
		}
	}
	return api.Field{}, false
}

// class: P13.2.
func (r reckoner) class(c api.Class) (api.Class, api.Fault) {
	var f api.Fault
	out := c
	out.Fields, out.Invs, out.Ctors, out.Meths = nil, nil, nil, nil
	for _, x := range c.Fields {
		if x.Type, f = r.typ(x.Type, scope{this: c.Name}); f != ok {
			return c, f
		}
		out.Fields = append(out.Fields, x)
	}
	for _, x := range c.Invs {
		if x, f = r.fitting(x, aBool, scope{this: c.Name, pred: true}); f != ok {
			return c, f
		}
		out.Invs = append(out.Invs, x)
	}
	if !c.Iface && len(c.Ctors) == 0 {
		if len(c.Fields) > 0 {
			return c, told(api.ErrInit, c.At)
		}
		if len(r.ctorParams(c.Super)) > 0 {
			return c, told(api.ErrNoMethod, c.At)
		}
	}
	for _, x := range c.Ctors {
		if x, f = r.ctor(c, x); f != ok {
			return c, f
		}
		out.Ctors = append(out.Ctors, x)
	}
	for _, x := range c.Meths {
		if x, f = r.method(c, x); f != ok {
			return c, f
		}
		out.Meths = append(out.Meths, x)
	}
	return out, ok
}

// typ: of a type's predicates the scope is that of what stands round it.
func (r reckoner) typ(t api.Type, sc scope) (api.Type, api.Fault) {
	out := t
	if t.Kind == api.List {
		elem, f := r.typ(t.Elem[0], scope{})
		if f != ok {
			return t, f
		}
		out.Elem = []api.Type{elem}
	}
	if len(t.Pred) > 0 {
		sc.pred, sc.v = true, []api.Type{naked(t)}
		pred, f := r.fitting(t.Pred[0], aBool, sc)
		if f != ok {
			return t, f
		}
		out.Pred = []api.Expr{pred}
	}
	return out, ok
}

func (r reckoner) params(list []api.Param, sc scope) ([]api.Param, scope, api.Fault) {
	var out []api.Param
	for _, p := range list {
		done, f := r.typ(p.Type, sc)
		if f != ok {
			return nil, sc, f
		}
		out = append(out, api.Param{Name: p.Name, Type: done, At: p.At})
		sc.names = append(slices.Clone(sc.names), known{p.Name, p.Type, true})
	}
	return out, sc, ok
}

func (r reckoner) method(c api.Class, m api.Method) (api.Method, api.Fault) {
	list, sc, f := r.params(m.Params, scope{this: c.Name})
	if f != ok {
		return m, f
	}
	result, f := r.typ(m.Result, sc)
	if f != ok {
		return m, f
	}
	body, f := r.stmts(m.Body, []api.Type{m.Result}, sc)
	if f != ok {
		return m, f
	}
	if !m.Abstract && m.Result.Kind != api.Void && !slices.ContainsFunc(m.Body, ends) {
		return m, told(api.ErrReturn, m.At)
	}
	m.Params, m.Result, m.Body = list, result, body
	return m, ok
}

func ends(s api.Stmt) bool {
	return s.Kind == "return" || s.Kind == "if" && slices.ContainsFunc(s.Body, ends) && slices.ContainsFunc(s.Else, ends)
}

// ctor: P13.6.
func (r reckoner) ctor(c api.Class, n api.Ctor) (api.Ctor, api.Fault) {
	list, sc, f := r.params(n.Params, scope{})
	if f != ok {
		return n, f
	}
	var args []api.Expr
	for _, e := range n.Super {
		if e, f = r.expr(e, sc); f != ok {
			return n, f
		}
		args = append(args, e)
	}
	if n.HasSuper && c.Super == "" || !r.fitParts(args, r.ctorParams(c.Super)) {
		return n, told(api.ErrNoMethod, n.At)
	}
	missing := slices.Clone(c.Fields)
	var body []api.Stmt
	for _, s := range n.Body {
		if s.Kind == "field" && s.Exprs[0].Op == "this" {
			i := slices.IndexFunc(missing, func(x api.Field) bool { return x.Name == s.Name })
			if i < 0 {
				return n, told(api.ErrInit, s.At)
			}
			value, f := r.fitting(s.Exprs[1], missing[i].Type, sc)
			if f != ok {
				return n, f
			}
			missing = slices.Delete(missing, i, i+1)
			this := s.Exprs[0]
			this.Type = []api.Type{ref(c.Name)}
			s.Exprs = []api.Expr{this, value}
		} else if s, sc, f = r.stmt(s, nil, sc); f != ok {
			return n, f
		}
		body = append(body, s)
	}
	if len(missing) > 0 {
		return n, told(api.ErrInit, n.At)
	}
	n.Params, n.Super, n.Body = list, args, body
	return n, ok
}

// stmts: what a block's end leaves is what was there ahead of it.
func (r reckoner) stmts(list []api.Stmt, result []api.Type, sc scope) ([]api.Stmt, api.Fault) {
	var out []api.Stmt
	var f api.Fault
	for _, s := range list {
		if s, sc, f = r.stmt(s, result, sc); f != ok {
			return nil, f
		}
		out = append(out, s)
	}
	return out, ok
}

// stmt: P13.5, and what there is behind it.
func (r reckoner) stmt(s api.Stmt, result []api.Type, sc scope) (api.Stmt, scope, api.Fault) {
	var f api.Fault
	switch s.Kind {
	case "let":
		return r.let(s, sc)
	case "return":
		s, f = r.giveBack(s, result, sc)
	case "set":
		s, f = r.set(s, sc)
	case "field", "elem":
		s, f = r.change(s, sc)
	case "do":
		e, f := r.expr(s.Exprs[0], sc)
		s.Exprs = []api.Expr{e}
		return s, sc, f
	default:
		s, f = r.conditions(s, sc)
	}
	if f != ok {
		return s, sc, f
	}
	if s.Body, f = r.stmts(s.Body, result, sc); f != ok {
		return s, sc, f
	}
	s.Else, f = r.stmts(s.Else, result, sc)
	return s, sc, f
}

// conditions: of statements whose first expression must fit a type that hangs on nothing, and whose others are predicates.
func (r reckoner) conditions(s api.Stmt, sc scope) (api.Stmt, api.Fault) {
	want := map[string]api.Type{"if": aBool, "while": aBool, "assert": aBool, "print": anInt}[s.Kind]
	var out []api.Expr
	for _, e := range s.Exprs {
		e, f := r.fitting(e, want, sc)
		if f != ok {
			return s, f
		}
		out = append(out, e)
		sc.pred = true
	}
	s.Exprs = out
	return s, ok
}

func (r reckoner) set(s api.Stmt, sc scope) (api.Stmt, api.Fault) {
	i := slices.IndexFunc(sc.names, func(k known) bool { return k.name == s.Name })
	if i < 0 {
		return s, told(api.ErrName, s.At)
	}
	if sc.names[i].param {
		return s, told(api.ErrFinal, s.At)
	}
	e, f := r.fitting(s.Exprs[0], sc.names[i].typ, sc)
	s.Exprs = []api.Expr{e}
	return s, f
}

// change: of a field, or of a list's part.
func (r reckoner) change(s api.Stmt, sc scope) (api.Stmt, api.Fault) {
	first, f := r.expr(s.Exprs[0], sc)
	if f != ok {
		return s, f
	}
	wants, code := r.inside(s, typeOf(first))
	if code != api.OK {
		return s, told(code, s.At)
	}
	out := []api.Expr{first}
	for i, want := range wants {
		e, f := r.fitting(s.Exprs[1+i], want, sc)
		if f != ok {
			return s, f
		}
		out = append(out, e)
	}
	s.Exprs = out
	return s, ok
}

// inside: what the expressions behind an object or a list must fit.
func (r reckoner) inside(s api.Stmt, first api.Type) ([]api.Type, api.Errno) {
	if s.Kind == "elem" {
		if first.Kind != api.List {
			return nil, api.ErrType
		}
		return []api.Type{anInt, first.Elem[0]}, api.OK
	}
	x, there := r.field(first.Name, s.Name)
	switch {
	case first.Kind != api.Ref:
		return nil, api.ErrType
	case !there:
		return nil, api.ErrName
	case x.Final:
		return nil, api.ErrFinal
	}
	return []api.Type{x.Type}, api.OK
}

func (r reckoner) let(s api.Stmt, sc scope) (api.Stmt, scope, api.Fault) {
	if slices.ContainsFunc(sc.names, func(k known) bool { return k.name == s.Name }) {
		return s, sc, told(api.ErrTwice, s.At)
	}
	behind := sc
	if len(s.Type) == 0 {
		e, f := r.expr(s.Exprs[0], sc)
		if f != ok {
			return s, sc, f
		}
		t := typeOf(e)
		if t.Kind == api.Void || t.Kind == api.Nil {
			return s, sc, told(api.ErrType, e.At)
		}
		s.Exprs = []api.Expr{e}
		behind.names = append(slices.Clone(sc.names), known{s.Name, t, false})
		return s, behind, ok
	}
	t := s.Type[0]
	if f := r.table.Known(t); f != ok {
		return s, sc, f
	}
	own := sc
	own.names = nil
	for _, k := range sc.names {
		if k.param {
			own.names = append(own.names, k)
		}
	}
	done, f := r.typ(t, own)
	if f != ok {
		return s, sc, f
	}
	e, f := r.fitting(s.Exprs[0], t, sc)
	if f != ok {
		return s, sc, f
	}
	s.Type, s.Exprs = []api.Type{done}, []api.Expr{e}
	behind.names = append(slices.Clone(sc.names), known{s.Name, t, false})
	return s, behind, ok
}

// giveBack: in ctors and main there is no result.
func (r reckoner) giveBack(s api.Stmt, result []api.Type, sc scope) (api.Stmt, api.Fault) {
	if len(result) == 0 {
		return s, told(api.ErrReturn, s.At)
	}
	if (result[0].Kind == api.Void) != (len(s.Exprs) == 0) {
		return s, told(api.ErrType, s.At)
	}
	if len(s.Exprs) == 0 {
		return s, ok
	}
	e, f := r.fitting(s.Exprs[0], result[0], sc)
	s.Exprs = []api.Expr{e}
	return s, f
}

// fitting: an expression that must fit a type.
func (r reckoner) fitting(e api.Expr, want api.Type, sc scope) (api.Expr, api.Fault) {
	out, f := r.expr(e, sc)
	if f == ok && !r.fits(typeOf(out), want) {
		f = told(api.ErrType, e.At)
	}
	return out, f
}

// expr: P13.4.
func (r reckoner) expr(e api.Expr, sc scope) (api.Expr, api.Fault) {
	never := []string{"=>"}
	if sc.pred {
		never = strings.Fields("call new list read index / %")
	}
	if slices.Contains(never, e.Op) {
		return e, told(api.ErrPred, e.At)
	}
	out := e
	out.Args, out.Type = nil, nil
	switch e.Op {
	case "new":
		c, there := r.find(e.Name)
		if !there {
			return e, told(api.ErrNoType, e.At)
		}
		if c.Iface {
			return e, told(api.ErrAbstract, e.At)
		}
	case "list":
		f := r.table.Known(e.Type[0])
		if f != ok {
			return e, f
		}
		done, f := r.typ(e.Type[0], scope{})
		if f != ok {
			return e, f
		}
		out.Type = []api.Type{done}
	}
	for i, part := range e.Args {
		part, f := r.expr(part, sc)
		if f != ok {
			return e, f
		}
		out.Args = append(out.Args, part)
		if e.Op == "call" && i == 0 && typeOf(part).Kind != api.Ref {
			return e, told(api.ErrType, e.At)
		}
	}
	t, name, code := r.own(out, sc)
	if code != api.OK {
		return e, told(code, e.At)
	}
	out.Name = name
	if e.Op != "list" {
		out.Type = []api.Type{naked(t)}
	}
	return out, ok
}

// own: an expression's type and its name, or the error at it.
func (r reckoner) own(e api.Expr, sc scope) (api.Type, string, api.Errno) {
	var kinds []int
	for _, part := range e.Args {
		kinds = append(kinds, typeOf(part).Kind)
	}
	every := func(kind int) bool { return !slices.ContainsFunc(kinds, func(k int) bool { return k != kind }) }
	result, fine := anInt, true
	switch e.Op {
	case "num", "read":
	case "true", "false":
		result = aBool
	case "null":
		result = aNil
	case "this":
		result = ref(sc.this)
		if sc.this == "" {
			return result, "", api.ErrThis
		}
	case "var":
		return r.variable(e, sc)
	case "field":
		return r.fieldOf(e, sc)
	case "call":
		return r.call(e)
	case "new":
		if !r.fitParts(e.Args, r.ctorParams(e.Name)) {
			return result, "", api.ErrNoMethod
		}
		result = ref(e.Name)
	case "list":
		fine = kinds[0] == api.Int && r.fits(typeOf(e.Args[1]), e.Type[0])
	case "index":
		if fine = kinds[0] == api.List && kinds[1] == api.Int; fine {
			result = typeOf(e.Args[0]).Elem[0]
		}
	case "len":
		fine = every(api.List)
	case "<", "<=", ">", ">=":
		result, fine = aBool, every(api.Int)
	case "not", "&&", "||", "=>":
		result, fine = aBool, every(api.Bool)
	case "==", "!=":
		a, b := typeOf(e.Args[0]), typeOf(e.Args[1])
		result, fine = aBool, every(api.Nil) || r.fits(a, b) || r.fits(b, a)
	default:
		fine = every(api.Int)
	}
	if !fine {
		return result, "", api.ErrType
	}
	return result, e.Name, api.OK
}

// variable: P13.3.
func (r reckoner) variable(e api.Expr, sc scope) (api.Type, string, api.Errno) {
	if len(sc.v) > 0 && e.Name == "v" {
		return sc.v[0], "v", api.OK
	}
	for _, k := range sc.names {
		if k.name == e.Name {
			return k.typ, e.Name, api.OK
		}
	}
	return anInt, "", api.ErrName
}

func (r reckoner) fieldOf(e api.Expr, sc scope) (api.Type, string, api.Errno) {
	object := typeOf(e.Args[0])
	x, there := r.field(object.Name, e.Name)
	switch {
	case object.Kind != api.Ref:
		return anInt, "", api.ErrType
	case !there:
		return anInt, "", api.ErrName
	case sc.pred && !x.Final:
		return anInt, "", api.ErrPred
	}
	return x.Type, e.Name, api.OK
}

// call: of all that fit the first that fits all of them.
func (r reckoner) call(e api.Expr) (api.Type, string, api.Errno) {
	var fit []classes.Member
	for _, m := range r.table.Overloads(typeOf(e.Args[0]).Name, e.Name) {
		if r.fitParts(e.Args[1:], m.Method.Params) {
			fit = append(fit, m)
		}
	}
	for _, m := range fit {
		narrow := true
		for _, other := range fit {
			for i, p := range m.Method.Params {
				narrow = narrow && r.fits(p.Type, other.Method.Params[i].Type)
			}
		}
		if narrow {
			return m.Method.Result, m.Sig, api.OK
		}
	}
	if len(fit) == 0 {
		return anInt, "", api.ErrNoMethod
	}
	return anInt, "", api.ErrAmbiguous
}
