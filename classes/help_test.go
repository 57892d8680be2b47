package classes_test

import (
	"strings"
	"testing"

	"surety/api"
	"surety/classes"
	"surety/syntax"
)

// The tests know of the package only what its exported calls tell. Tables are held against the tests' own reckoning, which looks up everything anew by walking up, as the chapter's words have it.

// program: the tree of a text.
func program(t testing.TB, s string) api.Program {
	t.Helper()
	p, f := syntax.Parse(s)
	if f != (api.Fault{}) {
		t.Fatalf("Parse(%q): %v", short(s), f)
	}
	return p
}

// typ: a type's tree, with its place in the text "main { let x: ".
func typ(t testing.TB, text string) api.Type {
	t.Helper()
	return program(t, "main { let x: "+text+" = 1; }").Main[0].Type[0]
}

// params: the parameters of a method that is declared so.
func params(t testing.TB, text string) []api.Param {
	t.Helper()
	return program(t, "interface I { def f("+text+"): void; } main { }").Classes[0].Meths[0].Params
}

// tableOf: what New answers, which must be no fault.
func tableOf(t testing.TB, p api.Program) *classes.Table {
	t.Helper()
	table, f := classes.New(p)
	if f != (api.Fault{}) || table == nil {
		t.Fatalf("New of %s: %v", short(syntax.Print(p)), f)
	}
	return table
}

// table: of a text of classes.
func table(t testing.TB, s string) *classes.Table {
	t.Helper()
	return tableOf(t, program(t, s+" main { }"))
}

// wantFault: New answers this fault, and no table beside it.
func wantFault(t *testing.T, p api.Program, want api.Fault) {
	t.Helper()
	table, f := classes.New(p)
	if f != want || table != nil {
		t.Errorf("New of %s: %v; want %v", short(syntax.Print(p)), f, want)
	}
}

// wantMarked: a fault at the mark ^, which isn't part of the text of classes.
func wantMarked(t *testing.T, code api.Errno, s string) {
	t.Helper()
	ahead, behind, one := strings.Cut(s, "^")
	if !one || strings.Contains(behind, "^") {
		t.Fatalf("%q hasn't one mark", short(s))
	}
	wantFault(t, program(t, ahead+behind+" main { }"), api.Fault{Code: code, At: len(ahead)})
}

// fine: New answers a table of a text of classes, whose answers are those that the test reckons.
func fine(t *testing.T, s string) {
	t.Helper()
	wantReckoned(t, program(t, s+" main { }"))
}

// short: a text for a message.
func short(s string) string {
	if len(s) > 1200 {
		return s[:600] + " .. " + s[len(s)-600:]
	}
	return s
}

// lines: so many texts, in each of which # is the line's number.
func lines(count int, text string) string {
	var out strings.Builder
	for i := range count {
		out.WriteString(strings.ReplaceAll(text, "#", number(i)))
	}
	return out.String()
}

// listed: likewise, with commas between.
func listed(count int, text string) string {
	return strings.TrimSuffix(lines(count, text+", "), ", ")
}

func number(i int) string {
	return string([]byte{'n', byte('0' + i/100%10), byte('0' + i/10%10), byte('0' + i%10)})
}
