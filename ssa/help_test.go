package ssa_test

import (
	"reflect"
	"strings"
	"testing"

	"surety/api"
	"surety/ssa"
	"surety/syntax"
	"surety/typing"
)

// The tests know of the package only what its exported calls tell. Bodies come of programs' texts by way of typing, as Convert asks for; what it answers is held against the test's own reckoning of the ways through a body, and run.

// body: a typed one, with the parameters that are there.
type body struct {
	params []string
	list   []api.Stmt
}

func (b body) converted() []ssa.Stmt { return ssa.Convert(b.params, b.list) }

// bodies: those of a program's ctors and methods, in their order, and main's.
func bodies(t testing.TB, text string) []body {
	t.Helper()
	p, f := syntax.Parse(text)
	if f != (api.Fault{}) {
		t.Fatalf("Parse(%s): %v", short(text), f)
	}
	_, out, f := typing.Check(p)
	if f != (api.Fault{}) {
		t.Fatalf("Check of %s: %v", short(text), f)
	}
	var all []body
	for _, c := range out.Classes {
		for _, n := range c.Ctors {
			all = append(all, body{named(n.Params), n.Body})
		}
		for _, m := range c.Meths {
			all = append(all, body{named(m.Params), m.Body})
		}
	}
	return append(all, body{nil, out.Main})
}

func named(params []api.Param) []string {
	var list []string
	for _, p := range params {
		list = append(list, p.Name)
	}
	return list
}

// within: a text of statements as the first body of a program, with parameters of several sorts.
func within(statements string) string {
	return `class A {
	def f(i: int, j: int, p: bool, q: bool, a: A, l: int[]): int { ` + statements + ` }
	def g(): void { }
}
class P { var m: int; new() { this.m = 0; } }
main { }`
}

// of: a text of statements, behind which 0 is returned, with parameters as within has them.
func of(t testing.TB, statements string) body {
	t.Helper()
	return bodies(t, within(statements+" return 0;"))[0]
}

// short: a text for a message.
func short(s string) string {
	if len(s) > 1600 {
		return s[:800] + " .. " + s[len(s)-800:]
	}
	return s
}

// shown: statements with versions as a text.
func shown(l []ssa.Stmt) string {
	var parts []string
	for _, s := range l {
		parts = append(parts, shownOne(s))
	}
	return strings.Join(parts, " ")
}

func shownOne(s ssa.Stmt) string {
	var exprs []string
	for _, e := range s.Exprs {
		exprs = append(exprs, syntax.Text(e))
	}
	all := strings.Join(exprs, ", ")
	switch s.Kind {
	case "let":
		return "let " + s.Name + " = " + all + ";"
	case "set":
		return s.Name + " = " + all + ";"
	case "if":
		return "if (" + all + ") " + shownBlock(s.Body) + " else " + shownBlock(s.Else) + shownPhis(s.Phis)
	case "while":
		return "while" + shownPhis(s.Phis) + " (" + all + ") " + shownBlock(s.Body)
	}
	return s.Kind + strings.TrimSuffix(" "+s.Name, " ") + strings.TrimSuffix(" "+all, " ") + ";"
}

func shownBlock(l []ssa.Stmt) string {
	return strings.TrimSuffix("{ "+shown(l), " ") + " }"
}

// shownPhis: a Phi's Name stands there only if it isn't the Base of each of its versions, which it always must be.
func shownPhis(phis []ssa.Phi) string {
	text := ""
	for _, p := range phis {
		for _, version := range []string{p.Out, p.Left, p.Right} {
			if version != "" && !strings.HasPrefix(version, p.Name+"#") {
				text += " wrong Name " + p.Name
			}
		}
		text += " [" + p.Out + ": " + p.Left + " | " + p.Right + "]"
	}
	return text
}

// wantShown: what a text of statements (behind which 0 is returned) becomes, that return left out.
func wantShown(t *testing.T, statements, want string) {
	t.Helper()
	b := of(t, statements)
	got := b.converted()
	wantRight(t, b, got)
	if last := len(got) - 1; got[last].Kind != "return" {
		t.Errorf("%s: the return at its end is missing", statements)
	} else if text := shown(got[:last]); text != want {
		t.Errorf("Convert of %s:\n%s; want\n%s", statements, text, want)
	}
}

// copied: a tree in new memory, where the empty list is nil.
func copied[T any](tree T) T {
	v := reflect.ValueOf(&tree).Elem()
	copyLists(v)
	return tree
}

func copyLists(v reflect.Value) {
	switch v.Kind() {
	case reflect.Struct:
		for i := range v.NumField() {
			copyLists(v.Field(i))
		}
	case reflect.Slice:
		if v.Len() == 0 {
			v.SetZero()
			return
		}
		list := reflect.MakeSlice(v.Type(), v.Len(), v.Len())
		reflect.Copy(list, v)
		v.Set(list)
		for i := range v.Len() {
			copyLists(v.Index(i))
		}
	}
}

// alike: are two trees the same, but for empty lists that are nil?
func alike[T any](a, b T) bool { return reflect.DeepEqual(copied(a), copied(b)) }
