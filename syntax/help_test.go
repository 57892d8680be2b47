package syntax_test

import (
	"reflect"
	"strings"
	"testing"

	"surety/api"
	"surety/syntax"
)

// The tests know of the package only what its exported calls tell. Trees are held against trees that a test writes out or draws, texts against layouts of the tests' own.

// everyPlace: calls f with each At in a tree, and makes each empty list nil, since either may stand for none.
func everyPlace(v reflect.Value, f func(at reflect.Value)) {
	switch v.Kind() {
	case reflect.Struct:
		for i := range v.NumField() {
			if v.Type().Field(i).Name == "At" {
				f(v.Field(i))
			} else {
				everyPlace(v.Field(i), f)
			}
		}
	case reflect.Slice:
		if v.Len() == 0 {
			v.SetZero()
		}
		for i := range v.Len() {
			everyPlace(v.Index(i), f)
		}
	}
}

func leave(reflect.Value) {}

func forget(at reflect.Value) { at.SetInt(0) }

// program: what Parse answers, which must be no fault.
func program(t testing.TB, s string) api.Program {
	t.Helper()
	p, f := syntax.Parse(s)
	if f != (api.Fault{}) {
		t.Fatalf("Parse(%q): %v", short(s), f)
	}
	everyPlace(reflect.ValueOf(&p).Elem(), leave)
	return p
}

// bare: a program's tree without its places.
func bare(t testing.TB, s string) api.Program {
	t.Helper()
	p := program(t, s)
	everyPlace(reflect.ValueOf(&p).Elem(), forget)
	return p
}

// wantTree: Parse answers this tree, with all places.
func wantTree(t *testing.T, s string, want api.Program) {
	t.Helper()
	everyPlace(reflect.ValueOf(&want).Elem(), leave)
	if got := program(t, s); !reflect.DeepEqual(got, want) {
		t.Errorf("Parse(%q):\n%+v\nwant\n%+v", short(s), got, want)
	}
}

// wantFault: Parse answers this fault, and no tree beside it.
func wantFault(t *testing.T, s string, code api.Errno, at int) {
	t.Helper()
	p, f := syntax.Parse(s)
	if f != (api.Fault{Code: code, At: at}) || len(p.Classes) != 0 || len(p.Main) != 0 {
		t.Errorf("Parse(%q): %v with %d classes and %d statements; want error %d at %d", short(s), f, len(p.Classes), len(p.Main), code, at)
	}
}

// wantMarked: a fault at the mark ^, which isn't part of the text.
func wantMarked(t *testing.T, code api.Errno, s string) {
	t.Helper()
	text, at := marked(s)
	if len(at) != 1 {
		t.Fatalf("%q has %d marks", s, len(at))
	}
	wantFault(t, text, code, at[0])
}

// marked: a text without its marks ^, and where these stood.
func marked(s string) (string, []int) {
	parts := strings.Split(s, "^")
	var at []int
	var text strings.Builder
	for i, part := range parts {
		if i > 0 {
			at = append(at, text.Len())
		}
		text.WriteString(part)
	}
	return text.String(), at
}

// wantPrint: Print of the text's program is this, which is read as the same program, and printed so again.
func wantPrint(t *testing.T, s, want string) {
	t.Helper()
	p := program(t, s)
	got := syntax.Print(p)
	if got != want {
		t.Errorf("Print of %q:\n%s\nwant\n%s", short(s), got, want)
		return
	}
	if !reflect.DeepEqual(bare(t, got), bare(t, s)) {
		t.Errorf("%q is read otherwise than what it is the print of", short(got))
	}
	if again := syntax.Print(program(t, got)); again != got {
		t.Errorf("Print of a print:\n%s\nwant\n%s", again, got)
	}
}

// expr: the expression, without its places.
func expr(t testing.TB, text string) api.Expr {
	t.Helper()
	return bare(t, "main { print "+text+"; }").Main[0].Exprs[0]
}

// typ: the type, without its places.
func typ(t testing.TB, text string) api.Type {
	t.Helper()
	return bare(t, "main { let x: "+text+" = 1; }").Main[0].Type[0]
}

// wantText: Text of the expression is this, which is read as the same one.
func wantText(t *testing.T, s, want string) {
	t.Helper()
	e := expr(t, s)
	got := syntax.Text(e)
	if got != want {
		t.Errorf("Text of %q: %q; want %q", short(s), short(got), short(want))
		return
	}
	if !reflect.DeepEqual(expr(t, got), e) {
		t.Errorf("%q is read otherwise than %q", short(got), short(s))
	}
}

// wantSame: both texts are read as one expression.
func wantSame(t *testing.T, a, b string) {
	t.Helper()
	if !reflect.DeepEqual(expr(t, a), expr(t, b)) {
		t.Errorf("%q isn't read as %q", a, b)
	}
}

// short: a text for a message.
func short(s string) string {
	if len(s) > 400 {
		return s[:200] + ".." + s[len(s)-198:]
	}
	return s
}

// examples: the programs under Examples in the document.
var examples = []string{
	"main { print 2 + 3; }",
	"main { let x = read(); if (x != 0) { print 10 / x; } }",
	"main { print 10 / read(); }",
	"class P { final n: int{v | v > 0}; new(k: int{v | v > 0}) { this.n = k; } } main { print 6 / new P(3).n; }",
	"main { let a = list int(3, 7); let i = 0; while (i < len(a)) invariant 0 <= i { print a[i]; i = i + 1; } }",
	"class N { var next: N?; new() { this.next = null; } } main { let n = new N(); print 1; n.next = n; n.next.next = n; }",
	"interface S { def f(x: int): int{v | v >= x}; } class A implements S { new() { } def f(x: int): int{v | v > x} { return x + 1; } } main { let s: S = new A(); assert s.f(3) >= 3; }",
	"class R { final lo: int; final hi: int; invariant this.lo <= this.hi; new(a: int, b: int{v | v >= a}) { this.lo = a; this.hi = b; } } main { let r = new R(1, 4); assert r.lo <= r.hi; }",
	"class B { new() { } def f(x: int): int { return x; } def f(x: bool): int { return 0; } } main { print new B().f(4) + new B().f(true); }",
	"main { let x = 1; while (x > 0) { x = x * 2; } }",
}

// ordinary: a program that has each sort of part.
const ordinary = `interface I { }
interface J extends I, K { def f(a: int, b: bool[]?): A?; def g(): void; }
class A { }
class B extends A implements I, J { // a remark
	final n: int{v | v > 0 && !(v == 7)};
	new(a: int, b: A?{v | v != null}[]?{v | len(v) > 0}) super(a, -1) { this.n = a; }
	invariant this.n > 0 => this.m != null;
	var m: A?;
	def g(): void { return; }
	def f(a: int, b: bool[]?): A? {
		let x: int[][]? = list int[](3, null);
		let y = a * (2 + a) % 5 - a / 2;
		if (y < 3 || b == null) { y = 4; } else if (y >= 9) { this.m = new A(); } else { x[y][0] = -y; }
		while (y <= 10) invariant y >= 0 invariant true { y = y + 1; this.g(); }
		return this.m.next(a, x[1])[read()].m;
	}
}
main {
	let b: B = new B(1, null);
	assert !b.f(1, null).ok || false;
	print len(list bool{v | v}(2, true));
	(b.f(0, null)).m = b;
	b.g();
}
`
