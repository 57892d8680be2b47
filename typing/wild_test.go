package typing_test

import (
	"math/rand"
	"reflect"
	"strconv"
	"strings"
	"testing"

	"surety/api"
	"surety/classes"
	"surety/syntax"
	"surety/typing"
)

// wild draws trees that mostly no text is read as.
type wild struct {
	*rand.Rand
	room int
}

// few: so many parts, none where there is no room.
func few[T any](w *wild, most int, draw func() T) []T {
	list := []T{}
	for range w.Intn(most + 1) {
		if w.room > 0 {
			w.room--
			list = append(list, draw())
		}
	}
	return list
}

func pick[T any](w *wild, list ...T) T { return list[w.Intn(len(list))] }

func (w *wild) word() string {
	return pick(w, "", "A", "B", "C", "I", "v", "x", "f", "f()", "f(A)", "\x00\xff")
}

var wildOps = strings.Fields("num true false null var this field call new list index len read neg not + - * / % < <= > >= == != && || =>")

func (w *wild) op() string { return pick(w, append(wildOps, "", "Num", "=")...) }

func (w *wild) stmtKind() string {
	return pick(w, "let", "set", "field", "elem", "if", "while", "return", "assert", "print", "do", "", "Let")
}

func (w *wild) typ() api.Type {
	kind := pick(w, -1, 0, 1, 1, 2, 2, 3, 3, 4, 4, 5, 6, 1<<40)
	return api.Type{Kind: kind, Name: w.word(), Null: w.Intn(2) == 0, Elem: few(w, 2, w.typ), Pred: few(w, 2, w.expr), At: w.Int()}
}

func (w *wild) expr() api.Expr {
	e := api.Expr{Op: w.op(), Name: w.word(), Args: few(w, 3, w.expr), Type: few(w, 2, w.typ), At: -w.Int()}
	if w.Intn(3) > 0 { // as many parts as a text has
		e.Args = nil
		for range map[string]int{"field": 1, "len": 1, "neg": 1, "not": 1, "call": 1 + w.Intn(2), "new": w.Intn(2), "list": 2, "index": 2}[e.Op] {
			if w.room > 0 {
				w.room--
				e.Args = append(e.Args, w.expr())
			}
		}
	}
	return e
}

func (w *wild) stmt() api.Stmt {
	return api.Stmt{Kind: w.stmtKind(), Name: w.word(), Type: few(w, 1, w.typ), Exprs: few(w, 3, w.expr), Body: few(w, 2, w.stmt), Else: few(w, 2, w.stmt), At: w.Int()}
}

func (w *wild) param() api.Param { return api.Param{Name: w.word(), Type: w.typ(), At: w.Int()} }

func (w *wild) field() api.Field {
	return api.Field{Name: w.word(), Type: w.typ(), Final: w.Intn(2) == 0, At: w.Int()}
}

func (w *wild) ctor() api.Ctor {
	return api.Ctor{Params: few(w, 2, w.param), HasSuper: w.Intn(2) == 0, Super: few(w, 2, w.expr), Body: few(w, 2, w.stmt), At: w.Int()}
}

func (w *wild) method() api.Method {
	return api.Method{Name: w.word(), Params: few(w, 2, w.param), Result: w.typ(), Body: few(w, 2, w.stmt), Abstract: w.Intn(2) == 0, At: w.Int()}
}

func (w *wild) class() api.Class {
	c := api.Class{Name: w.word(), Iface: w.Intn(2) == 0, Above: few(w, 1, w.word), At: w.Int()}
	if w.Intn(4) == 0 {
		c.Super = w.word()
	}
	c.Fields, c.Invs, c.Ctors, c.Meths = few(w, 1, w.field), few(w, 1, w.expr), few(w, 1, w.ctor), few(w, 2, w.method)
	return c
}

// P1, P13.2, P13.7: trees that no text is read as: each is refused, with nothing beside the fault, or is the same program with types.
func TestWildTrees(t *testing.T) {
	w := &wild{Rand: rand.New(rand.NewSource(5))}
	right, past := 0, 0
	for i := range 60000 {
		w.room = 1 + i%25
		p := api.Program{Classes: few(w, 3, w.class), Main: few(w, 3, w.stmt)}
		table, out, f := typing.Check(p)
		_, first := classes.New(p)
		if first == ok {
			past++
		}
		if first != ok && f != first || f.Code != api.OK && (table != nil || len(out.Classes)+len(out.Main) > 0) {
			t.Fatalf("Check of %+v: %v", p, f)
		}
		if f != ok {
			continue
		}
		right++
		if table == nil || syntax.Print(renamed(out)) != syntax.Print(renamed(p)) {
			t.Fatalf("Check of %+v: %+v", p, out)
		}
		if _, again, f := typing.Check(backed(p, out)); f != ok || !reflect.DeepEqual(copied(again), copied(out)) {
			t.Fatalf("Check of %+v, and again: %v", p, f)
		}
	}
	if right < 3000 || past < 20000 {
		t.Errorf("%d wild trees without a fault, %d without one of classes", right, past)
	}
}

// backed: out with the names of p's calls.
func backed(p, out api.Program) api.Program {
	out = copied(out)
	var names []string
	eachPlain(reflect.ValueOf(&p).Elem(), func(e *api.Expr) { names = append(names, e.Name) })
	i := 0
	eachPlain(reflect.ValueOf(&out).Elem(), func(e *api.Expr) {
		e.Name = names[i]
		i++
	})
	return out
}

// P1: Of and Fits of any trees.
func TestWildTypes(t *testing.T) {
	w := &wild{Rand: rand.New(rand.NewSource(6))}
	table := tableOf(t, "interface I { } class A implements I { } class B extends A { }")
	for range 20000 {
		w.room = 15
		e := w.expr()
		got := typing.Of(e)
		want := append(e.Type, api.Type{})[0]
		if e.Op == "list" {
			want = api.Type{Kind: api.List, Elem: e.Type}
		}
		if !reflect.DeepEqual(copied(got), copied(want)) {
			t.Fatalf("Of(%+v): %+v", e, got)
		}
		a, b := w.typ(), w.typ()
		both := a.Kind == b.Kind && a.Kind != api.Void && a.Kind != api.Nil && classes.Base(a) == classes.Base(b)
		if a.Kind == api.Ref && b.Kind == api.Ref {
			both = table.Below(a.Name, b.Name)
		}
		if a.Kind == api.Nil {
			both = b.Kind == api.Ref || b.Kind == api.List
		}
		if typing.Fits(table, a, b) != both {
			t.Fatalf("Fits(%+v, %+v): %v", a, b, !both)
		}
	}
}

// P1, P13.2: expressions and statements of no sort, or with too few or too many parts, are refused where they stand.
func TestWrongParts(t *testing.T) {
	one, yes, null := numeral("1"), api.Expr{Op: "true"}, api.Expr{Op: "null"}
	some := func(count int, e api.Expr) []api.Expr {
		var out []api.Expr
		for range count {
			out = append(out, e)
		}
		return out
	}
	for op, right := range map[string]int{"num": 0, "true": 0, "false": 0, "null": 0, "var": 0, "read": 0, "this": 0, "field": 1, "len": 1, "neg": 1, "not": 1, "index": 2, "+": 2, "<": 2, "&&": 2, "==": 2, "list": 2, "": -1, "Num": -1} {
		for count := range 4 {
			part := one
			if op == "not" || op == "&&" {
				part = yes
			}
			e := api.Expr{Op: op, Args: some(count, part), At: 7}
			if op == "list" {
				e.Type = []api.Type{anInt}
			}
			_, _, f := typing.Check(api.Program{Main: []api.Stmt{{Kind: "do", Exprs: []api.Expr{e}}}})
			if count != right && f != told(api.ErrType, 7) {
				t.Errorf("Check of a %q of %d parts: %v", op, count, f)
			}
		}
	}
	for count := range 3 {
		e := api.Expr{Op: "list", Args: some(2, one), Type: make([]api.Type, count), At: 8}
		for i := range e.Type {
			e.Type[i] = anInt
		}
		want := told(api.ErrType, 8)
		if count == 1 {
			want = ok
		}
		if _, _, f := typing.Check(api.Program{Main: []api.Stmt{{Kind: "do", Exprs: []api.Expr{e}}}}); f != want {
			t.Errorf("Check of a list of %d types: %v", count, f)
		}
	}
	wantFault(t, api.Program{Main: []api.Stmt{{Kind: "do", Exprs: []api.Expr{{Op: "call", Name: "f", At: 9}}}}}, told(api.ErrType, 9))
	wantFault(t, api.Program{Main: []api.Stmt{{Kind: "let", Name: "x", Type: []api.Type{anInt, anInt}, Exprs: some(1, one), At: 9}}}, told(api.ErrType, 9))
	for kind, most := range map[string][2]int{"let": {1, 1}, "set": {1, 1}, "field": {2, 2}, "elem": {3, 3}, "if": {1, 1}, "while": {1, 9}, "return": {0, 1}, "assert": {1, 1}, "print": {1, 1}, "do": {1, 1}, "": {9, 0}, "Let": {9, 0}} {
		for count := range 5 {
			p := api.Program{Main: []api.Stmt{{Kind: kind, Name: "x", Exprs: some(count, null), At: 7}}}
			if count < most[0] || count > most[1] {
				wantFault(t, p, told(api.ErrType, 7))
			}
		}
	}
	field := api.Class{Name: "A", Fields: []api.Field{{Name: "x", Type: anInt}}, Ctors: []api.Ctor{{Body: []api.Stmt{{Kind: "field", Name: "x", Exprs: []api.Expr{{Op: "this"}}, At: 7}}}}}
	wantFault(t, api.Program{Classes: []api.Class{field}}, told(api.ErrType, 7))
}

// deep: so many parts within one another.
const deep = 1<<16 - 20

func nestExpr(op string, e api.Expr) api.Expr {
	for range deep {
		e = api.Expr{Op: op, Args: []api.Expr{e}, At: e.At + 1}
	}
	return e
}

// P1: trees whose parts lie as deep in one another as anything that is given may.
func TestDeepTrees(t *testing.T) {
	fine := func(what string, main ...api.Stmt) {
		t.Helper()
		if _, out, f := typing.Check(api.Program{Main: main}); f != ok || len(out.Main) != len(main) {
			t.Errorf("Check of deep %s: %v", what, f)
		}
	}
	fine("signs", api.Stmt{Kind: "do", Exprs: []api.Expr{nestExpr("neg", numeral("1"))}})
	fine("signs", api.Stmt{Kind: "assert", Exprs: []api.Expr{nestExpr("not", api.Expr{Op: "true"})}})
	wantFault(t, api.Program{Main: []api.Stmt{{Kind: "do", Exprs: []api.Expr{nestExpr("neg", api.Expr{Op: "true"})}}}}, told(api.ErrType, 1))
	wantFault(t, api.Program{Main: []api.Stmt{{Kind: "do", Exprs: []api.Expr{nestExpr("call", numeral("1"))}}}}, told(api.ErrType, 1))
	wantFault(t, api.Program{Main: []api.Stmt{{Kind: "do", Exprs: []api.Expr{nestExpr("new", numeral("1"))}}}}, told(api.ErrNoType, deep))
	sum := numeral("1")
	for range deep {
		sum = operation("+", sum, numeral("1"))
	}
	fine("sums", api.Stmt{Kind: "print", Exprs: []api.Expr{sum}})
	for _, kind := range []string{"if", "while"} {
		s, e := api.Stmt{Kind: "let", Name: "y", Exprs: []api.Expr{numeral("1")}}, api.Stmt{Kind: "print", Exprs: []api.Expr{numeral("1")}}
		for range deep {
			s = api.Stmt{Kind: kind, Exprs: []api.Expr{{Op: "true"}}, Body: []api.Stmt{s}}
			e = api.Stmt{Kind: kind, Exprs: []api.Expr{{Op: "true"}}, Else: []api.Stmt{e}}
		}
		fine(kind, s)
		if kind == "if" {
			fine("else", e)
		}
		m := api.Method{Name: "f", Result: anInt, Body: []api.Stmt{s}, At: 9}
		wantFault(t, api.Program{Classes: []api.Class{{Name: "A", Meths: []api.Method{m}}}}, told(api.ErrReturn, 9))
	}
}

// P1: likewise types, and predicates in them.
func TestDeepTypes(t *testing.T) {
	typ, pred := api.Type{Kind: api.Ref, Name: "A", At: 9}, nestExpr("not", api.Expr{Op: "true"})
	typ.Pred = []api.Expr{pred}
	e := api.Expr{Op: "var", Name: "x"}
	for range deep / 2 {
		typ = api.Type{Kind: api.List, Elem: []api.Type{typ}}
	}
	let := api.Stmt{Kind: "let", Name: "x", Type: []api.Type{typ}, Exprs: []api.Expr{{Op: "null"}}}
	a := api.Class{Name: "A", Meths: []api.Method{{Name: "f", Params: []api.Param{{Name: "p", Type: typ}}, Result: typ, Body: []api.Stmt{{Kind: "return", Exprs: []api.Expr{{Op: "var", Name: "p"}}}}}}}
	p := api.Program{Classes: []api.Class{a}, Main: []api.Stmt{let, {Kind: "do", Exprs: []api.Expr{e}}, {Kind: "set", Name: "x", Exprs: []api.Expr{e}}}}
	_, out, f := typing.Check(p)
	if f != ok {
		t.Fatalf("Check of deep types: %v", f)
	}
	of := typing.Of(out.Main[1].Exprs[0])
	if !typing.Fits(nil, of, typ) || !typing.Fits(nil, typ, of) || typing.Fits(nil, of, of.Elem[0]) {
		t.Errorf("a deep type doesn't fit itself, or fits its elements' one")
	}
	wantFault(t, api.Program{Main: []api.Stmt{let}}, told(api.ErrNoType, 9))
}

// P1: lists of lists, each with a predicate that names what it is about, would have types beyond any bound; a fault in such a program is told, and a small one is typed whole.
func TestPredicatesWithin(t *testing.T) {
	for _, count := range []int{8, 60} {
		text := "int{v | v > 0}" + strings.Repeat("[]{v | len(v) > 0 && v != null}", count)
		p := program(t, "main { let x: "+text+" = null; x = x; print len(x); }")
		if _, out, f := typing.Check(p); f != ok || syntax.Print(out) != syntax.Print(p) {
			t.Errorf("Check of %d lists in one another: %v", count, f)
		}
		if count < 10 {
			wantReckoned(t, p)
		}
	}
	text := "int{v | v > 0}" + strings.Repeat("[]{v | len(v) > 0 && v != null}", 1500)
	head := "main { let x: " + text + " = null; x = x; print "
	wantFault(t, program(t, head+"x; }"), told(api.ErrType, len(head)))
}

// P1: lists of very many parts.
func TestVeryMany(t *testing.T) {
	const many = 100000
	var main []api.Stmt
	for i := range many {
		name := "n" + strconv.Itoa(i)
		main = append(main, api.Stmt{Kind: "let", Name: name, Exprs: []api.Expr{numeral("1")}}, api.Stmt{Kind: "set", Name: name, Exprs: []api.Expr{variable(name)}})
	}
	if _, out, f := typing.Check(api.Program{Main: main}); f != ok || len(out.Main) != 2*many {
		t.Errorf("Check of %d names: %v", many, f)
	}
	args := make([]api.Expr, many)
	for i := range args {
		args[i] = numeral("1")
	}
	p := api.Program{Classes: []api.Class{{Name: "A"}}, Main: []api.Stmt{{Kind: "do", Exprs: []api.Expr{{Op: "new", Name: "A", Args: args, At: 5}}}}}
	wantFault(t, p, told(api.ErrNoMethod, 5))
	p.Main[0].Exprs[0] = api.Expr{Op: "call", Name: "f", Args: append([]api.Expr{{Op: "new", Name: "A"}}, args...), At: 6}
	wantFault(t, p, told(api.ErrNoMethod, 6))
}
