package typing_test

import (
	"reflect"
	"strings"
	"testing"

	"surety/api"
	"surety/classes"
	"surety/syntax"
	"surety/typing"
)

// P13.1: Of of each sort of expression: its Type, of a list a List of it.
func TestOf(t *testing.T) {
	all := []api.Type{
		{}, anInt, aBool, aNil, ref("A"), ref(""), {Kind: api.Ref, Name: "A", Null: true, At: 3}, {Kind: 9}, {Kind: -1, Name: "x", At: -2},
		typ(t, "int{v | v > 0}"), typ(t, "A?{v | v.n > 0 => v == null}[]?{v | len(v) > 0}"), typ(t, "bool[][]?[]"), {Kind: api.List}, {Kind: api.Void, Elem: []api.Type{anInt, aBool}},
	}
	dressed := at(t, "class A { final n: int; new() { this.n = 1; } } main { let x = list A{v | v.n > 0}[]{v | len(v) > 0}(1, null); x = ^x; }", "var").Type[0]
	all = append(all, dressed)
	ops := []string{"", "num", "true", "null", "var", "this", "field", "call", "new", "index", "len", "read", "neg", "not", "+", "=>", "lists", "List"}
	for _, want := range all {
		for _, op := range ops {
			e := api.Expr{Op: op, Name: "list", Args: []api.Expr{{Op: "list"}}, Type: []api.Type{want}, At: 7}
			if got := typing.Of(e); !reflect.DeepEqual(copied(got), copied(want)) {
				t.Errorf("Of a %q: %+v; want %+v", op, got, want)
			}
			e.Type = nil
			if got := typing.Of(e); !reflect.DeepEqual(copied(got), api.Type{}) {
				t.Errorf("Of a %q without a type: %+v", op, got)
			}
			if got := typing.Of(api.Expr{Op: op, Type: []api.Type{}}); !reflect.DeepEqual(copied(got), api.Type{}) {
				t.Errorf("Of a %q without a type: %+v", op, got)
			}
		}
		e := api.Expr{Op: "list", Name: "x", Type: []api.Type{want}, At: 7}
		if got := typing.Of(e); !reflect.DeepEqual(copied(got), copied(api.Type{Kind: api.List, Elem: []api.Type{want}})) {
			t.Errorf("Of a list: %+v; want one of %+v", got, want)
		}
	}
	if got := typing.Of(api.Expr{Op: "list"}); got.Kind != api.List || len(got.Elem) != 0 {
		t.Errorf("Of a list without a type: %+v", got)
	}
}

// P13.1: Fits of each two types.
func TestFits(t *testing.T) {
	table := tableOf(t, "interface I extends J { } interface J { } class A implements I { } class B extends A { } class C extends B implements K { } interface K { } class D { }")
	above := map[string]string{"I": "IJ", "J": "J", "A": "AIJ", "B": "BAIJ", "C": "CBAIJK", "K": "K", "D": "D"}
	names := strings.Split("A B C D I J K Z", " ")
	var all []api.Type
	for _, text := range []string{"int", "int{v | v > 0}", "bool", "bool{v | v}", "int[]", "int[]?", "int[]{v | len(v) > 0}", "int{v | v > 0}[]", "int{v | v >= 0}[]", "bool[]", "int[][]", "int[]?[]", "int[]{v | len(v) > 0}[]", "A[]", "A?[]", "B[]", "Z[]", "A{v | v != null}[]"} {
		all = append(all, typ(t, text))
	}
	for _, name := range names {
		all = append(all, ref(name), api.Type{Kind: api.Ref, Name: name, Null: true, At: 3})
	}
	all = append(all, api.Type{}, api.Type{Null: true, At: 4}, aNil, api.Type{Kind: api.Nil, Name: "A"}, api.Type{Kind: api.Ref}, api.Type{Kind: api.List}, api.Type{Kind: api.List, Elem: []api.Type{{}}}, api.Type{Kind: api.List, Elem: []api.Type{aNil}}, api.Type{Kind: 6}, api.Type{Kind: -1})
	for _, from := range all {
		for _, to := range all {
			var want bool
			switch {
			case from.Kind == api.Nil:
				want = to.Kind == api.Ref || to.Kind == api.List
			case from.Kind == api.Ref && to.Kind == api.Ref:
				want = from.Name != "" && to.Name != "" && strings.Contains(above[from.Name], to.Name)
			case from.Kind != api.Void && from.Kind == to.Kind:
				want = from.Kind != api.List || listText(from) == listText(to)
			}
			if got := typing.Fits(table, from, to); got != want {
				t.Errorf("Fits of %q (%d) and %q (%d): %v", syntax.TypeText(from), from.Kind, syntax.TypeText(to), to.Kind, got)
			}
		}
	}
}

func listText(list api.Type) string {
	if len(list.Elem) == 0 {
		return syntax.TypeText(api.Type{})
	}
	return syntax.TypeText(list.Elem[0])
}

// P13.1: with no table at all there are no classes.
func TestFitsWithoutTable(t *testing.T) {
	if typing.Fits(nil, ref("A"), ref("A")) || !typing.Fits(nil, anInt, anInt) || !typing.Fits(nil, aNil, ref("A")) {
		t.Errorf("Fits without a table")
	}
}

// P13.2, P13.4: expressions' types, written out.
func TestTypesOfExpressions(t *testing.T) {
	for _, w := range []struct{ body, op, want string }{
		{"print ^1;", "", "int"},
		{"assert ^true;", "", "bool"},
		{"assert ^false;", "", "bool"},
		{"let y: A = ^null;", "", "null"},
		{"print ^i;", "", "int"},
		{"let y = ^as;", "", "A?[]"},
		{"let y: A{v | v.n > i} = b; let z = ^y;", "", "A"},
		{"let y = b; let z = ^y;", "", "B"},
		{"let y: A? = b; let z = ^y;", "", "A"},
		{"let y = ^this;", "", "C"},
		{"let y = a.^n;", "", "int"},
		{"let y = b.^up;", "", "A"},
		{"let y = b.^all;", "", "A?[]"},
		{"let y = b.up.next.^ns;", "", "int[]"},
		{"let y = a.^g(1);", "", "int"},
		{"a.^nothing();", "", "void"},
		{"this.^f(1, 2, p, a, b, x, this, is, as);", "", "void"},
		{"let y = ^new B();", "", "B"},
		{"let y = ^list int{v | v > 0}[]?(1, null);", "", "int{v | v > 0}[]?[]"},
		{"let y = ^list A?{v | v == null}(1, null);", "", "A?{v | v == null}[]"},
		{"let y = list int{v | v > 0}(1, 1); y = ^y;", "", "int{v | v > 0}[]"},
		{"let y = list int{v | v > 0}[]?{v | len(v) > 2}(1, null); let z = y^[0];", "", "int{v | v > 0}[]"},
		{"let y = list int{v | v > 0}[]?{v | len(v) > 2}(1, null); let z = y[0]^[1];", "", "int"},
		{"let y: int[]?{v | len(v) > i} = null; y = ^y;", "", "int[]"},
		{"let y = as^[0];", "", "A"},
		{"let y = ^len(is);", "", "int"},
		{"let y = ^read();", "", "int"},
		{"let y = ^-i;", "", "int"},
		{"let y = ^!p;", "", "bool"},
		{"let y = 1 ^+ i;", "", "int"},
		{"let y = 1 ^% i;", "", "int"},
		{"let y = 1 ^<= i;", "", "bool"},
		{"let y = a ^!= null;", "", "bool"},
		{"let y = p ^|| p;", "", "bool"},
		{"while (p) invariant p ^=> p { }", "", "bool"},
		{"while (p) invariant a.^up == b { }", "", "A"},
		{"let y: A?{v | ^v == null} = a;", "", "A"},
		{"let y: int[]?{v | len(^v) > 0} = null;", "", "int[]"},
		{"let y: int{v | ^v > 0}[]? = null;", "", "int"},
		{"let y: A?{v | v.^up == null}[]? = null;", "", "A"},
		{"let y: A?{v | v.n > 0}[]{v | ^v == null} = null;", "", "A?{v | v.n > 0}[]"},
	} {
		e := at(t, within(w.body), w.op)
		if got := typeText(typing.Of(e)); got != w.want {
			t.Errorf("%s: %s; want %s", w.body, got, w.want)
		}
		if e.Op != "list" && (len(e.Type) != 1 || typeText(e.Type[0]) != w.want || e.Type[0].Null || e.Type[0].At != 0) {
			t.Errorf("%s: %+v; want %s", w.body, e.Type, w.want)
		}
	}
}

// typeText: TypeText, and names for the two types that no text writes.
func typeText(typ api.Type) string {
	switch typ.Kind {
	case api.Void, api.Nil:
		return classes.Base(typ)
	}
	return syntax.TypeText(typ)
}

// P13.2: a list has the type that it is written with: its own place and predicates, which have types.
func TestTypeOfList(t *testing.T) {
	e := at(t, "main { let y = ^list int{v | v > 0}[]?{v | len(v) > 2}(1, null); }", "list")
	if len(e.Type) != 1 || e.Type[0].Kind != api.List || !e.Type[0].Null || e.Type[0].At == 0 || len(e.Type[0].Pred) != 1 {
		t.Fatalf("a list has the types %+v", e.Type)
	}
	outer, inner := e.Type[0].Pred[0], e.Type[0].Elem[0].Pred[0]
	if typeText(typing.Of(outer)) != "bool" || typeText(typing.Of(outer.Args[0].Args[0])) != "int{v | v > 0}[]" || typeText(typing.Of(inner.Args[0])) != "int" {
		t.Errorf("its predicates have other types: %+v, %+v", outer, inner)
	}
	again := outer.Args[0].Args[0].Type[0].Elem[0].Pred[0]
	if typeText(typing.Of(again)) != "bool" || typeText(typing.Of(again.Args[0])) != "int" {
		t.Errorf("a predicate in a type in a predicate has other types: %+v", again)
	}
}

// P13.2: a predicate whose own expression's type has that predicate: the tree ends somewhere.
func TestTypeInACircle(t *testing.T) {
	const text = "class A { final all: A?{v | v == null || len(v.all) > 0 && v.other != null}[]; final other: B{v | v.back != null}[]; final n: int{v | len(this.all) > len(this.other)}; new() { this.all = null; this.other = null; this.n = 1; } } class B { final back: A?{v | v.other == v.other && v.all != null}[]; new() { this.back = null; } } main { let a = new A(); print len(^a.all); assert a.all[0].other[1].back[2].n == 7; }"
	fine(t, strings.Replace(text, "^", "", 1))
	e := at(t, strings.Replace(strings.Replace(text, "^", "", 1), "len(a.all", "len(a.^all", 1), "")
	pred := e.Type[0].Elem[0].Pred[0]
	if got := typeText(typing.Of(pred)); got != "bool" {
		t.Errorf("a predicate of the elements has the type %s", got)
	}
	if got := typeText(typing.Of(pred.Args[1].Args[0].Args[0].Args[0])); got != "A?{v | v == null || len(v.all) > 0 && v.other != null}[]" {
		t.Errorf("a field in it has the type %s", got)
	}
}

// P13.4: which method is called.
func TestOverloads(t *testing.T) {
	const around = `interface I { } interface J { } class A implements I { } class B extends A implements J { } class C extends B { }
class F { METHODS }
class G extends F { MORE }
main { let a: A = null; let b: B = null; let c: C = null; let i: I = null; let j: J = null; let is: int[] = null; let ps: int{v | v > 0}[] = null; let f = new F(); let g = new G(); CALL }`
	for _, w := range []struct{ methods, more, call, want string }{
		{"f(x: A)", "", "f.^f(b);", "f(A)"},
		{"f(x: A), f(x: B)", "", "f.^f(b);", "f(B)"},
		{"f(x: A), f(x: B)", "", "f.^f(c);", "f(B)"},
		{"f(x: A), f(x: B)", "", "f.^f(a);", "f(A)"},
		{"f(x: B), f(x: A)", "", "f.^f(a);", "f(A)"},
		{"f(x: B), f(x: A)", "", "f.^f(null);", "f(B)"},
		{"f(x: A), f(x: B), f(x: C), f(x: I)", "", "f.^f(new C());", "f(C)"},
		{"f(x: A), f(x: B), f(x: C), f(x: I)", "", "f.^f(new B());", "f(B)"},
		{"f(x: A), f(x: B), f(x: C), f(x: I)", "", "f.^f(i);", "f(I)"},
		{"f(x: I), f(x: J), f(x: B)", "", "f.^f(b);", "f(B)"},
		{"f(x: I), f(x: J), f(x: C)", "", "f.^f(c);", "f(C)"},
		{"f(x: I), f(x: J), f(x: C)", "", "f.^f(a);", "f(I)"},
		{"f(x: I), f(x: A?)", "", "f.^f(b);", "f(A)"},
		{"f(x: int), f(x: bool), f()", "", "f.^f(1);", "f(int)"},
		{"f(x: int), f(x: bool), f()", "", "f.^f(true);", "f(bool)"},
		{"f(x: int), f(x: bool), f()", "", "f.^f();", "f()"},
		{"f(x: int), f(x: bool), f(x: A)", "", "f.^f(null);", "f(A)"},
		{"f(x: int[]), f(x: int{v | v > 0}[]), f(x: bool)", "", "f.^f(is);", "f(int[])"},
		{"f(x: int[]), f(x: int{v | v > 0}[]), f(x: bool)", "", "f.^f(ps);", "f(int{v | v > 0}[])"},
		{"f(x: A, y: A), f(x: B, y: A)", "", "f.^f(b, a);", "f(B,A)"},
		{"f(x: A, y: B), f(x: B, y: A), f(x: B, y: B)", "", "f.^f(b, b);", "f(B,B)"},
		{"f(x: A, y: B), f(x: B, y: A), f(x: B, y: B)", "", "f.^f(c, a);", "f(B,A)"},
		{"f(x: A, y: B), f(x: B, y: A)", "", "f.^f(a, c);", "f(A,B)"},
		{"f(x: A, y: int), f(x: A, y: bool)", "", "f.^f(b, true);", "f(A,bool)"},
		{"f(x: A), f(x: A, y: A)", "", "f.^f(b, c);", "f(A,A)"},
		{"f(x: A), g(x: B)", "", "f.^f(b);", "f(A)"},
		{"f(x: A)", "f(x: B)", "g.^f(b);", "f(B)"},
		{"f(x: A)", "f(x: B)", "f.^f(b);", "f(A)"},
		{"f(x: B)", "f(x: A)", "g.^f(b);", "f(B)"},
		{"f(x: B)", "f(x: A)", "g.^f(a);", "f(A)"},
		{"f(x: B), f(x: A)", "f(x: A)", "g.^f(a);", "f(A)"},
	} {
		if got := at(t, fillMethods(around, w.methods, w.more, w.call), "call"); got.Name != w.want || got.Type[0].Kind != api.Int {
			t.Errorf("%s with %s: %s of %+v", w.methods, w.call, got.Name, got.Type)
		}
		plain, _ := marked(t, fillMethods(around, w.methods, w.more, w.call))
		fine(t, plain)
	}
	for _, w := range []struct {
		code    api.Errno
		methods string
		call    string
	}{
		{api.ErrAmbiguous, "f(x: I), f(x: J)", "f.^f(b);"},
		{api.ErrAmbiguous, "f(x: I), f(x: J)", "f.^f(null);"},
		{api.ErrAmbiguous, "f(x: A, y: B), f(x: B, y: A)", "f.^f(b, b);"},
		{api.ErrAmbiguous, "f(x: A, y: B), f(x: B, y: A)", "f.^f(null, null);"},
		{api.ErrAmbiguous, "f(x: A, y: B), f(x: B, y: A), f(x: A, y: A)", "f.^f(b, c);"},
		{api.ErrAmbiguous, "f(x: A), f(x: int[])", "f.^f(null);"},
		{api.ErrAmbiguous, "f(x: int{v | v > 0}[]), f(x: int[])", "f.^f(null);"},
		{api.ErrAmbiguous, "f(x: I), f(x: A), f(x: J)", "f.^f(b);"},
		{api.ErrAmbiguous, "f(x: A, y: C, z: B), f(x: B, y: B, z: C), f(x: C, y: A, z: A)", "f.^f(c, c, c);"},
		{api.ErrAmbiguous, "f(x: A, y: C, z: B), f(x: B, y: B, z: C), f(x: C, y: A, z: A)", "f.^f(null, c, null);"},
		{api.ErrNoMethod, "f(x: B), f(x: C), f(x: J)", "f.^f(a);"},
		{api.ErrNoMethod, "f(x: A, y: B), f(x: B, y: A)", "f.^f(a, a);"},
		{api.ErrNoMethod, "f(x: A), f(x: B)", "f.^f(i);"},
		{api.ErrNoMethod, "f(x: A), f(x: B)", "f.^f();"},
		{api.ErrNoMethod, "g(x: A)", "f.^f(a);"},
		{api.ErrNoMethod, "f(x: int{v | v > 1}[]), f(x: bool[])", "f.^f(ps);"},
	} {
		wantMarked(t, w.code, fillMethods(around, w.methods, "", w.call))
	}
}

// fillMethods: methods by their heads, each with a body of its own.
func fillMethods(around, methods, more, call string) string {
	for from, heads := range map[string]string{"METHODS": methods, "MORE": more} {
		text := ""
		for _, head := range strings.Split(heads, "), ") {
			if head != "" {
				text += "def " + strings.TrimSuffix(head, ")") + "): int { return 1; } "
			}
		}
		around = strings.Replace(around, from, text, 1)
	}
	return strings.Replace(around, "CALL", call, 1)
}

// P13.4: the chapter's example, and methods of interfaces.
func TestExamples(t *testing.T) {
	const a = "class A { def f(x: A): int { return 1; } def f(x: B): int { return 2; } } class B extends A { } "
	if e := at(t, a+"main { print new A().^f(new B()); }", ""); e.Name != "f(B)" {
		t.Errorf("f(new B()) calls %s", e.Name)
	}
	if e := at(t, a+"main { print new A().^f(new A()); }", ""); e.Name != "f(A)" {
		t.Errorf("f(new A()) calls %s", e.Name)
	}
	wantMarked(t, api.ErrType, "main { print ^true; }")
	const i = "interface I extends J { def f(x: int): bool; } interface J { def f(x: I): J; def g(): void; } class A implements I { def f(x: int): bool { return true; } def f(x: J): int { return 1; } def f(x: I): J { return null; } def g(): void { } } "
	for _, w := range [][3]string{
		{"let i: I = new A(); i.^f(1);", "f(int)", "bool"}, {"let i: I = new A(); i.^f(i);", "f(I)", "J"}, {"let i: I = new A(); i.^g();", "g()", "void"},
		{"let i: J = new A(); i.^f(null);", "f(I)", "J"}, {"let i = new A(); i.^f(null);", "f(I)", "J"}, {"let i: J = new A(); new A().^f(i);", "f(J)", "int"},
	} {
		if e := at(t, i+"main { "+w[0]+" }", "call"); e.Name != w[1] || typeText(typing.Of(e)) != w[2] {
			t.Errorf("%s calls %s", w[0], e.Name)
		}
	}
	wantMarked(t, api.ErrNoMethod, i+"main { let i: J = new A(); i.^f(1); }")
	wantMarked(t, api.ErrNoMethod, i+"main { let i: I = new A(); let j: J = i; i.^f(j); }")
}

// The document's ten examples of the whole have no fault of this layer.
func TestTenExamples(t *testing.T) {
	for _, s := range []string{
		"main { print 2 + 3; }",
		"main { let x = read(); if (x != 0) { print 10 / x; } }",
		"main { print 10 / read(); }",
		"class P { final n: int{v | v > 0}; new(k: int{v | v > 0}) { this.n = k; } } main { print 6 / new P(3).n; }",
		"main { let a = list int(3, 7); let i = 0; while (i < len(a)) invariant 0 <= i { print a[i]; i = i + 1; } }",
		"class N { var next: N?; new() { this.next = null; } } main { let n = new N(); print 1; n.next = n; }",
		"interface S { def f(x: int): int{v | v >= x}; } class A implements S { new() { } def f(x: int): int{v | v > x} { return x + 1; } } main { let s: S = new A(); assert s.f(3) >= 3; }",
		"class R { final lo: int; final hi: int; invariant this.lo <= this.hi; new(a: int, b: int{v | v >= a}) { this.lo = a; this.hi = b; } } main { let r = new R(1, 4); assert r.lo <= r.hi; }",
		"class B { new() { } def f(x: int): int { return x; } def f(x: bool): int { return 0; } } main { print new B().f(4) + new B().f(true); }",
		"main { let x = 1; while (x > 0) { x = x * 2; } }",
	} {
		fine(t, s)
	}
}
