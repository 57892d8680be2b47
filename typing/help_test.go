package typing_test

import (
	"reflect"
	"slices"
	"strings"
	"testing"

	"surety/api"
	"surety/classes"
	"surety/syntax"
	"surety/typing"
)

// The tests know of the package only what its exported calls tell. Typed programs and faults are held against the tests' own reckoning, which goes through a program by the chapter's words and looks up everything anew.

// program: the tree of a text.
func program(t testing.TB, s string) api.Program {
	t.Helper()
	p, f := syntax.Parse(s)
	if f != (api.Fault{}) {
		t.Fatalf("Parse(%q): %v", short(s), f)
	}
	return p
}

// reread: a drawn program as its print is read, so that it has places.
func reread(t testing.TB, p api.Program) api.Program {
	t.Helper()
	return program(t, syntax.Print(p))
}

// typ: a type's tree, with its place in the text "main { let x: ".
func typ(t testing.TB, text string) api.Type {
	t.Helper()
	return program(t, "main { let x: "+text+" = 1; }").Main[0].Type[0]
}

// tableOf: of a text of classes.
func tableOf(t testing.TB, s string) *classes.Table {
	t.Helper()
	table, f := classes.New(program(t, s+" main { }"))
	if f != (api.Fault{}) {
		t.Fatalf("New of %s: %v", short(s), f)
	}
	return table
}

// typed: what Check answers, which must be no fault.
func typed(t testing.TB, p api.Program) (*classes.Table, api.Program) {
	t.Helper()
	table, out, f := typing.Check(p)
	if f != (api.Fault{}) || table == nil {
		t.Fatalf("Check of %s: %v", short(syntax.Print(p)), f)
	}
	return table, out
}

// wantFault: Check answers this fault, and neither a table nor a program beside it.
func wantFault(t *testing.T, p api.Program, want api.Fault) {
	t.Helper()
	table, out, f := typing.Check(p)
	if f != want || table != nil || len(out.Classes) > 0 || len(out.Main) > 0 {
		t.Errorf("Check of %s: %v with %d classes; want %v", short(syntax.Print(p)), f, len(out.Classes), want)
	}
}

// marked: a text without its mark ^, and where that stood; -1: there is none.
func marked(t testing.TB, s string) (string, int) {
	t.Helper()
	ahead, behind, one := strings.Cut(s, "^")
	if strings.Contains(behind, "^") {
		t.Fatalf("%q has more than one mark", short(s))
	}
	if !one {
		return s, -1
	}
	return ahead + behind, len(ahead)
}

// wantMarked: a fault at the mark ^, as the test's own reckoning has it, too.
func wantMarked(t *testing.T, code api.Errno, s string) {
	t.Helper()
	text, at := marked(t, s)
	if at < 0 {
		t.Fatalf("%q has no mark", short(s))
	}
	want := api.Fault{Code: code, At: at}
	p := program(t, text)
	wantFault(t, p, want)
	if _, f := reckoned(p); f != want {
		t.Errorf("the test reckons %v of %s; want %v", f, short(s), want)
	}
}

// fine: Check answers the typed program that the test reckons.
func fine(t *testing.T, s string) {
	t.Helper()
	wantReckoned(t, program(t, s))
}

// within: a text of statements in a method of a class with fields and parameters of each sort, and others below and above it.
func within(body string) string {
	return `interface I { def g(k: int): int; }
class A implements I {
	final n: int; final b: bool; final up: A?; final ns: int[]; var next: A?; var m: int; var all: A?[];
	new(k: int) { this.n = k; this.b = true; this.up = null; this.ns = list int(0, 0); this.next = null; this.m = k; this.all = list A?(0, null); }
	def g(k: int): int { return k; }
	def nothing(): void { }
}
class B extends A { new() super(1) { } }
class C {
	def f(i: int, j: int, p: bool, a: A, b: B, x: I, c: C, is: int[], as: A?[]): void { ` + body + ` }
}
main { }`
}

// short: a text for a message.
func short(s string) string {
	if len(s) > 1600 {
		return s[:800] + " .. " + s[len(s)-800:]
	}
	return s
}

// at: the typed expression of a text that stands at the mark ^; of several the one of that Op.
func at(t testing.TB, s, op string) api.Expr {
	t.Helper()
	text, place := marked(t, s)
	_, out := typed(t, program(t, text))
	var found []api.Expr
	eachPlain(reflect.ValueOf(&out).Elem(), func(e *api.Expr) {
		if e.At == place && (op == "" || e.Op == op) {
			found = append(found, *e)
		}
	})
	if len(found) != 1 {
		t.Fatalf("%d expressions at the mark of %s", len(found), short(s))
	}
	return found[0]
}

// eachPlain: each expression that is written in a program, those in expressions' types not.
func eachPlain(v reflect.Value, f func(e *api.Expr)) {
	eachWithin(v, nil, func(e *api.Expr, _ []int) { f(e) })
}

// eachWithin: likewise, with the places of the types' predicates that it stands in.
func eachWithin(v reflect.Value, within []int, f func(e *api.Expr, within []int)) {
	switch v.Kind() {
	case reflect.Struct:
		if v.Type() == reflect.TypeFor[api.Expr]() {
			e := v.Addr().Interface().(*api.Expr)
			f(e, within)
			eachWithin(v.FieldByName("Args"), within, f)
			if e.Op == "list" {
				eachWithin(v.FieldByName("Type"), within, f)
			}
			return
		}
		for i := range v.NumField() {
			in := within
			if typ, is := v.Interface().(api.Type); is && v.Type().Field(i).Name == "Pred" {
				for _, pred := range typ.Pred {
					in = append(slices.Clone(in), pred.At)
				}
			}
			eachWithin(v.Field(i), in, f)
		}
	case reflect.Slice:
		for i := range v.Len() {
			eachWithin(v.Index(i), within, f)
		}
	}
}
