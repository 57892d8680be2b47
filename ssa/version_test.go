package ssa_test

import (
	"slices"
	"testing"

	"surety/api"
	"surety/ssa"
)

// P14.1: the first version of a name, and what a version is one of.
func TestVersionAndBase(t *testing.T) {
	for name, want := range map[string]string{"x": "x#0", "": "#0", "a b": "a b#0", "x#1": "x#1#0", "#": "##0", "äé": "äé#0", "\xff": "\xff#0", "this": "this#0"} {
		if got := ssa.Version(name); got != want {
			t.Errorf("Version(%q): %q; want %q", name, got, want)
		}
	}
	for version, want := range map[string]string{"x#0": "x", "x": "x", "": "", "#0": "", "#": "", "x#": "x", "x#1#2": "x", "x##": "x", "long_name1#1234567890": "long_name1", "x#y": "x", "äé#7": "äé", "\xff#0": "\xff"} {
		if got := ssa.Base(version); got != want {
			t.Errorf("Base(%q): %q; want %q", version, got, want)
		}
	}
}

// P14.2: the parameters have the versions 0, and further ones of their names go on from there.
func TestParameters(t *testing.T) {
	for _, name := range []string{"i", "a", "long_name"} {
		got := ssa.Convert([]string{"k", name}, []api.Stmt{{Kind: "print", Exprs: []api.Expr{{Op: "var", Name: name}}}})
		if len(got) != 1 || got[0].Exprs[0].Name != ssa.Version(name) {
			t.Errorf("the parameter %s: %s", name, shown(got))
		}
	}
	if got := ssa.Convert(nil, nil); len(got) != 0 {
		t.Errorf("Convert of nothing: %v", got)
	}
	if got := ssa.Convert([]string{"x"}, []api.Stmt{}); len(got) != 0 {
		t.Errorf("Convert of no statements: %v", got)
	}
	if got := ssa.Erase(nil); len(got) != 0 {
		t.Errorf("Erase of nothing: %v", got)
	}
	if got := ssa.Versions([]ssa.Stmt{}); len(got) != 0 {
		t.Errorf("Versions of nothing: %v", got)
	}
}

// P14.2, P14.3: more versions of a name than one digit numbers.
func TestManyVersions(t *testing.T) {
	list := []api.Stmt{{Kind: "let", Name: "x", Exprs: []api.Expr{numeral("1")}}}
	for range 120 {
		list = append(list, api.Stmt{Kind: "set", Name: "x", Exprs: []api.Expr{variable("x")}})
	}
	b := body{nil, list}
	got := b.converted()
	wantRight(t, b, got)
	if got[120].Name != "x#120" || got[120].Exprs[0].Name != "x#119" {
		t.Errorf("the last version: %s", shownOne(got[120]))
	}
}

func numeral(text string) api.Expr { return api.Expr{Op: "num", Name: text} }

func variable(name string) api.Expr { return api.Expr{Op: "var", Name: name} }

// pred: a type with a predicate about v and another name.
func promisingType() api.Type {
	return api.Type{Kind: api.Int, Pred: []api.Expr{{Op: ">", Args: []api.Expr{variable("v"), variable("x#1")}}}}
}

// P14.3: Erase of statements that are put together by hand: the Base of what is a version, and all else as it is, in types, too.
func TestErase(t *testing.T) {
	typ := []api.Type{promisingType()}
	list := api.Expr{Op: "list", Name: "l#1", Type: typ, Args: []api.Expr{variable("x#2"), {Op: "neg", Args: []api.Expr{variable("y#3#4")}}}, At: 8}
	got := ssa.Erase([]ssa.Stmt{
		{Kind: "let", Name: "x#7", Type: typ, Exprs: []api.Expr{list}, At: 3},
		{Kind: "set", Name: "x#8", Exprs: []api.Expr{variable("x#7"), {Op: "call", Name: "f#1", Args: []api.Expr{variable("z")}}}},
		{Kind: "field", Name: "f#9", Exprs: []api.Expr{variable("o#1"), variable("x#8")}},
		{Kind: "if", Exprs: []api.Expr{variable("p#0")}, Body: []ssa.Stmt{{Kind: "let", Name: "y#0"}}, Else: []ssa.Stmt{{Kind: "set", Name: "y#1"}}, Phis: []ssa.Phi{{Name: "y", Out: "y#2", Left: "y#0", Right: "y#1"}}, At: -4},
		{Kind: "while", Exprs: []api.Expr{variable("p#0"), variable("q#0")}, Body: []ssa.Stmt{{Kind: "return"}}, Phis: []ssa.Phi{{Name: "y"}}},
	})
	list.Args = []api.Expr{variable("x"), {Op: "neg", Args: []api.Expr{variable("y")}}}
	want := []api.Stmt{
		{Kind: "let", Name: "x", Type: typ, Exprs: []api.Expr{list}, At: 3},
		{Kind: "set", Name: "x", Exprs: []api.Expr{variable("x"), {Op: "call", Name: "f#1", Args: []api.Expr{variable("z")}}}},
		{Kind: "field", Name: "f#9", Exprs: []api.Expr{variable("o"), variable("x")}},
		{Kind: "if", Exprs: []api.Expr{variable("p")}, Body: []api.Stmt{{Kind: "let", Name: "y"}}, Else: []api.Stmt{{Kind: "set", Name: "y"}}, At: -4},
		{Kind: "while", Exprs: []api.Expr{variable("p"), variable("q")}, Body: []api.Stmt{{Kind: "return"}}},
	}
	if !alike(got, want) {
		t.Errorf("Erase: %+v; want %+v", got, want)
	}
}

// P14.3: Versions: a while's Phis' ahead of its body's, an if's behind those of both blocks.
func TestVersions(t *testing.T) {
	phis := func(outs ...string) []ssa.Phi {
		var list []ssa.Phi
		for _, out := range outs {
			list = append(list, ssa.Phi{Name: "n", Out: out, Left: "l#1", Right: "r#1"})
		}
		return list
	}
	one := func(kind, name string) []ssa.Stmt { return []ssa.Stmt{{Kind: kind, Name: name}} }
	got := ssa.Versions([]ssa.Stmt{
		{Kind: "let", Name: "a#0"},
		{Kind: "if", Body: one("set", "b#1"), Else: one("let", "c#1"), Phis: phis("d#1", "e#1")},
		{Kind: "print", Name: "no#1"},
		{Kind: "while", Body: append(one("let", "h#1"), ssa.Stmt{Kind: "if", Body: one("set", "i#1"), Phis: phis("j#1")}), Phis: phis("f#1", "g#1")},
		{Kind: "field", Name: "no#2"},
		{Kind: "while", Phis: phis("k#1")},
		{Kind: "set", Name: "a#0"},
		{Kind: "return", Name: "no#3"},
	})
	want := []string{"a#0", "b#1", "c#1", "d#1", "e#1", "f#1", "g#1", "h#1", "i#1", "j#1", "k#1", "a#0"}
	if !slices.Equal(got, want) {
		t.Errorf("Versions: %v; want %v", got, want)
	}
	b := of(t, "let x = 0; let y = 1; while (p) { x = 2; if (q) { y = 3; } else { x = 4; } } y = 5;")
	want = []string{"x#0", "y#0", "x#1", "y#1", "x#2", "y#2", "x#3", "x#4", "y#3", "y#4"}
	if got := ssa.Versions(b.converted()); !slices.Equal(got, want) {
		t.Errorf("Versions of a body: %v; want %v", got, want)
	}
}

// P14.2: types are as they are: what their predicates name is no version, in a let's type, a list's, and in types of expressions.
func TestTypesStay(t *testing.T) {
	all := bodies(t, `class A {
	def f(i: int, v: int): int {
		let x: int{v | v > i} = i;
		let l: int{v | v > 0}[]{v | len(v) > i} = list int{v | v > 0}(i, v);
		x = v; l = list int{v | v > 0}(x, len(l));
		if (l[x] > v) { let y: int{v | v > i && v != 0} = l[v]; y = l[y]; }
		return x;
	}
}
main { }`)
	got := all[0].converted()
	wantRight(t, all[0], got)
	if x := got[0]; x.Type[0].Pred[0].Args[0].Name != "v" || x.Type[0].Pred[0].Args[1].Name != "i" || x.Exprs[0].Name != "i#0" {
		t.Errorf("a let's type: %+v", x)
	}
	list := got[1].Exprs[0]
	if list.Type[0].Pred[0].Args[0].Name != "v" || list.Args[1].Name != "v#0" {
		t.Errorf("a list's type: %+v", list)
	}
	if l := got[3].Exprs[0].Args[1].Args[0]; l.Name != "l#0" || l.Type[0].Elem[0].Pred[0].Args[0].Name != "v" {
		t.Errorf("a name's type: %+v", l)
	}
}
