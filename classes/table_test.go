package classes_test

import (
	"reflect"
	"slices"
	"testing"

	"surety/api"
	"surety/classes"
	"surety/syntax"
)

// shapes: classes below one another with interfaces above interfaces, overriding, overloads, fields and invariants along a chain.
const shapes = `
class Square extends Rect implements Named {
	final side: int{v | v > 0};
	invariant this.side == this.w;
	new(s: int{v | v > 0}) super(s, s) { this.side = s; }
	def area(): int { return this.side * this.side; }
	def name(other: Shape[]?): Text? { return null; }
	def name(): Text { return new Text(); }
}
interface Shape extends Sized { def area(): int; def grow(by: int{v | v > 0}): void; }
class Rect implements Shape {
	final w: int;
	var h: int;
	invariant this.w > 0;
	invariant this.h > 0;
	new(a: int, b: int) { this.w = a; this.h = b; }
	def area(): int { return this.w * this.h; }
	def grow(by: int): void { this.h = this.h + by; }
	def grow(by: bool): int { return 0; }
	def size(): int{v | v >= 0} { return 1; }
}
interface Named { def name(): Text?; }
interface Sized { def size(): int; }
class Text { }
class Tall extends Square { new() super(9) { } def grow(x: int{v | v < 9}): void { } var more: Text?[]; }
class Alone { def area(): bool { return true; } def z(): int { return 0; } def Z(): int { return 0; } def _(): int { return 0; } }
interface Both extends Named, Shape { def area(): int{v | v > 0}; }
`

func owners(list []classes.Member) []string {
	var out []string
	for _, m := range list {
		out = append(out, m.Owner+"."+m.Sig)
	}
	return out
}

func ownedNames(list []classes.Owned) []string {
	var out []string
	for _, o := range list {
		out = append(out, o.Owner+"."+o.Field.Name)
	}
	return out
}

func invTexts(list []classes.Inv) []string {
	var out []string
	for _, i := range list {
		out = append(out, i.Owner+": "+syntax.Text(i.Expr))
	}
	return out
}

func wantList[T comparable](t *testing.T, call string, got []T, want ...T) {
	t.Helper()
	if !slices.Equal(got, want) {
		t.Errorf("%s: %v; want %v", call, got, want)
	}
}

// P12.3 to P12.5: each call of an ordinary table, against answers that are written out.
func TestShapes(t *testing.T) {
	s := table(t, shapes)
	wantList(t, "Names", s.Names(), "Square", "Shape", "Rect", "Named", "Sized", "Text", "Tall", "Alone", "Both")
	wantList(t, "Above(Square)", s.Above("Square"), "Shape", "Rect", "Named", "Sized")
	wantList(t, "Above(Tall)", s.Above("Tall"), "Square", "Shape", "Rect", "Named", "Sized")
	wantList(t, "Above(Both)", s.Above("Both"), "Shape", "Named", "Sized")
	wantList(t, "Above(Shape)", s.Above("Shape"), "Sized")
	wantList(t, "Above(Text)", s.Above("Text"))
	wantList(t, "Fields(Tall)", ownedNames(s.Fields("Tall")), "Rect.w", "Rect.h", "Square.side", "Tall.more")
	wantList(t, "Fields(Shape)", ownedNames(s.Fields("Shape")))
	wantList(t, "Invariants(Tall)", invTexts(s.Invariants("Tall")), "Rect: this.w > 0", "Rect: this.h > 0", "Square: this.side == this.w")
	wantList(t, "Invariants(Alone)", invTexts(s.Invariants("Alone")))
	slots := []string{"Z()", "_()", "area()", "grow(bool)", "grow(int)", "name()", "name(Shape[])", "size()", "z()"}
	wantList(t, "Slots", s.Slots(), slots...)
	wantList(t, "Vtable(Tall)", s.Vtable("Tall"), -1, -1, 0, 2, 6, 0, 0, 2, -1)
	wantList(t, "Vtable(Rect)", s.Vtable("Rect"), -1, -1, 2, 2, 2, -1, -1, 2, -1)
	wantList(t, "Vtable(Both)", s.Vtable("Both"), -1, -1, 8, -1, 1, 3, -1, 4, -1)
	wantList(t, "Vtable(Alone)", s.Vtable("Alone"), 7, 7, 7, -1, -1, -1, -1, -1, 7)
	wantList(t, "Methods(Tall)", owners(s.Methods("Tall")), "Square.area()", "Rect.grow(bool)", "Tall.grow(int)", "Square.name()", "Square.name(Shape[])", "Rect.size()")
	wantList(t, "Methods(Both)", owners(s.Methods("Both")), "Both.area()", "Shape.grow(int)", "Named.name()", "Sized.size()")
	wantList(t, "Methods(Alone)", owners(s.Methods("Alone")), "Alone.Z()", "Alone._()", "Alone.area()", "Alone.z()")
	wantList(t, "Overloads(Tall, grow)", owners(s.Overloads("Tall", "grow")), "Rect.grow(bool)", "Tall.grow(int)")
	wantList(t, "Overloads(Square, name)", owners(s.Overloads("Square", "name")), "Square.name()", "Square.name(Shape[])")
	wantList(t, "Overloads(Named, grow)", owners(s.Overloads("Named", "grow")))
	wantList(t, "Overloads(Tall, grow(int))", owners(s.Overloads("Tall", "grow(int)")))
	fine(t, shapes)
}

// P12.3: Below.
func TestBelow(t *testing.T) {
	s := table(t, shapes)
	for _, pair := range [][2]string{{"Tall", "Tall"}, {"Tall", "Square"}, {"Tall", "Sized"}, {"Both", "Named"}, {"Shape", "Sized"}, {"Sized", "Sized"}} {
		if !s.Below(pair[0], pair[1]) {
			t.Errorf("Below%v is false", pair)
		}
	}
	for _, pair := range [][2]string{{"Square", "Tall"}, {"Sized", "Shape"}, {"Tall", "Both"}, {"Rect", "Named"}, {"Text", "Alone"}, {"Nobody", "Nobody"}, {"Nobody", "Tall"}, {"Tall", "Nobody"}, {"", ""}, {"int", "int"}} {
		if s.Below(pair[0], pair[1]) {
			t.Errorf("Below%v is true", pair)
		}
	}
}

// P12.4, P12.5: what is answered is the part of the program, whole, with its places.
func TestParts(t *testing.T) {
	p := program(t, shapes+"main { }")
	s := tableOf(t, p)
	square, rect := p.Classes[0], p.Classes[2]
	if f, owner, there := s.Field("Tall", "h"); !there || owner != "Rect" || !reflect.DeepEqual(f, rect.Fields[1]) {
		t.Errorf("Field(Tall, h): %+v of %q, %v", f, owner, there)
	}
	if f, owner, there := s.Field("Rect", "side"); there || owner != "" || !reflect.DeepEqual(f, api.Field{}) {
		t.Errorf("Field(Rect, side): %+v of %q, %v", f, owner, there)
	}
	if m, there := s.Dispatch("Tall", "name(Shape[])"); !there || !reflect.DeepEqual(m, classes.Member{Sig: "name(Shape[])", Owner: "Square", Method: square.Meths[1]}) {
		t.Errorf("Dispatch(Tall, name(Shape[])): %+v, %v", m, there)
	}
	for _, sig := range []string{"z()", "name(Shape[]?)", "grow( int)", "grow", ""} {
		if m, there := s.Dispatch("Tall", sig); there || !reflect.DeepEqual(m, classes.Member{}) {
			t.Errorf("Dispatch(Tall, %s): %+v, %v", sig, m, there)
		}
	}
	if c, there := s.Class("Square"); !there || !reflect.DeepEqual(c, square) {
		t.Errorf("Class(Square): %+v, %v", c, there)
	}
	if invs := s.Invariants("Rect"); !reflect.DeepEqual(invs, []classes.Inv{{Owner: "Rect", Expr: rect.Invs[0]}, {Owner: "Rect", Expr: rect.Invs[1]}}) {
		t.Errorf("Invariants(Rect): %+v", invs)
	}
}

// P12.3 to P12.5: names and classes that the table doesn't have.
func TestNobody(t *testing.T) {
	for _, s := range []*classes.Table{table(t, ""), table(t, shapes)} {
		for _, name := range []string{"", "Nobody", "square", "Square ", "Text?", "int", "void", "null", "Shape[]", "area()"} {
			if c, there := s.Class(name); there || !reflect.DeepEqual(c, api.Class{}) {
				t.Errorf("Class(%q): %+v, %v", name, c, there)
			}
			if f, owner, there := s.Field(name, "w"); there || owner != "" || !reflect.DeepEqual(f, api.Field{}) {
				t.Errorf("Field(%q): %+v of %q, %v", name, f, owner, there)
			}
			if m, there := s.Dispatch(name, "area()"); there || !reflect.DeepEqual(m, classes.Member{}) {
				t.Errorf("Dispatch(%q): %+v, %v", name, m, there)
			}
			if lists := len(s.Above(name)) + len(s.Fields(name)) + len(s.Invariants(name)) + len(s.Methods(name)) + len(s.Overloads(name, "area")); lists != 0 {
				t.Errorf("%q has something", name)
			}
			if got := s.Vtable(name); len(got) != len(s.Slots()) || slices.ContainsFunc(got, func(place int) bool { return place != -1 }) {
				t.Errorf("Vtable(%q): %v", name, got)
			}
		}
	}
}

// P12.3, P12.5: a program without classes.
func TestNoClasses(t *testing.T) {
	for _, s := range []*classes.Table{table(t, ""), tableOf(t, api.Program{}), tableOf(t, api.Program{Classes: []api.Class{}})} {
		if len(s.Names()) != 0 || len(s.Slots()) != 0 || len(s.Vtable("")) != 0 {
			t.Errorf("a table of nothing has %v, %v", s.Names(), s.Slots())
		}
	}
	fine(t, "")
}

// P12.5: of an interface its own method, or that of the first one above it in the program's order, not in the order of its extends nor of how far above it is.
func TestDispatchOfInterfaces(t *testing.T) {
	for _, c := range []struct{ text, owner string }{
		{"interface I { def f(): int; } interface J { def f(): int; } interface K extends J, I { }", "I"},
		{"interface J { def f(): int; } interface I { def f(): int; } interface K extends J, I { }", "J"},
		{"interface K extends J, I { } interface I { def f(): int; } interface J { def f(): int; }", "I"},
		{"interface I { def f(): int; } interface J extends I { def f(): int; } interface K extends J { }", "I"},
		{"interface J extends I { def f(): int; } interface I { def f(): int; } interface K extends J { }", "J"},
		{"interface I { def f(): int; } interface J extends I { def f(): int; } interface K extends J { def f(): int; }", "K"},
		{"interface I { } interface J extends I, L { } interface K extends J { } interface L { def f(): int; }", "L"},
	} {
		fine(t, c.text)
		s := table(t, c.text)
		if m, there := s.Dispatch("K", "f()"); !there || m.Owner != c.owner {
			t.Errorf("Dispatch(K, f()) of %s: of %q, %v; want %q", c.text, m.Owner, there, c.owner)
		}
	}
}

// P12.5: of a class its chain alone counts: that of an interface is no method that a class has.
func TestDispatchOfClasses(t *testing.T) {
	text := "interface I { def f(): int; } class A extends B implements I { } class B extends C { } class C implements I { def f(): int { return 1; } } class D extends A { def f(): int { return 2; } }"
	fine(t, text)
	s := table(t, text)
	for name, owner := range map[string]string{"I": "I", "A": "C", "B": "C", "C": "C", "D": "D"} {
		if m, there := s.Dispatch(name, "f()"); !there || m.Owner != owner || m.Method.Abstract != (name == "I") {
			t.Errorf("Dispatch(%s, f()): of %q, %v; want %q", name, m.Owner, there, owner)
		}
	}
}

// P12.5: signatures rise by their bytes.
func TestSlotsByBytes(t *testing.T) {
	text := "class a { } class B { def f(a: int): int { } def f(): int { } def f(a: a): int { } def f(a: B): int { } def f(a: B?[]): int { } def F(): int { } def f1(): int { } def fa(): int { } def f_(): int { } def f(a: int, b: int): int { } def f(a: int{v | v > 0}[]): int { } def f(a: int[]): int { } }"
	want := []string{"F()", "f()", "f(B)", "f(B?[])", "f(a)", "f(int)", "f(int,int)", "f(int[])", "f(int{v | v > 0}[])", "f1()", "f_()", "fa()"}
	s := table(t, text)
	wantList(t, "Slots", s.Slots(), want...)
	var sigs []string
	for _, m := range s.Methods("B") {
		sigs = append(sigs, m.Sig)
	}
	wantList(t, "Methods", sigs, want...)
	fine(t, text)
}

// P12.3 to P12.7: chains as long as may be, of classes and of interfaces, and classes with as many members as may be.
func TestLarge(t *testing.T) {
	text := "interface I000 { } class C000 { }"
	for i := 1; i < 32; i++ {
		here, ahead := number(i)[1:], number(i - 1)[1:]
		method := "def f" + number(i/2) + "(a: C" + here + "): int"
		text = "interface I" + here + " extends I" + ahead + " { " + method + "; } " + text
		text += "class C" + here + " extends C" + ahead + " implements I" + here + " { var x" + here + ": int; invariant true; " + method + " { } }"
	}
	fine(t, text)
	fine(t, "class A extends B { def fn001(a: B?): A { } } class B { "+lines(64, "final #: B; invariant #; def f#(a: B): A { } ")+"}"+lines(62, "interface # { } "))
}
