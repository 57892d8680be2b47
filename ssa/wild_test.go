package ssa_test

import (
	"math/rand"
	"slices"
	"strconv"
	"strings"
	"testing"

	"surety/api"
	"surety/ssa"
)

// wild draws trees that mostly no text is read as.
type wild struct {
	*rand.Rand
	room int
}

// few: so many parts, none where there is no room.
func few[T any](w *wild, most int, draw func() T) []T {
	var list []T
	for range w.Intn(most + 1) {
		if w.room > 0 {
			w.room--
			list = append(list, draw())
		}
	}
	return list
}

func pick[T any](w *wild, list ...T) T { return list[w.Intn(len(list))] }

func (w *wild) word() string {
	return pick(w, "", "a", "b", "c", "x", "x", "y", "x#0", "x#1", "#", "x#", "##0", "y#0#1", "x#01", "\x00\xff", "v")
}

func (w *wild) kind() string {
	return pick(w, "let", "let", "set", "set", "set", "if", "if", "while", "while", "return", "print", "do", "field", "elem", "assert", "", "Let", "\xff")
}

func (w *wild) expr() api.Expr {
	return api.Expr{Op: pick(w, "var", "var", "var", "num", "list", "call", "", "Var", "field"), Name: w.word(), Args: few(w, 2, w.expr), Type: few(w, 1, w.typ), At: w.Int()}
}

func (w *wild) typ() api.Type {
	return api.Type{Kind: w.Intn(9) - 2, Name: w.word(), Null: w.Intn(2) == 0, Elem: few(w, 1, w.typ), Pred: few(w, 2, w.expr), At: -w.Int()}
}

func (w *wild) stmt() api.Stmt {
	return api.Stmt{Kind: w.kind(), Name: w.word(), Type: few(w, 1, w.typ), Exprs: few(w, 2, w.expr), Body: few(w, 3, w.stmt), Else: few(w, 3, w.stmt), At: w.Int()}
}

func (w *wild) phi() ssa.Phi {
	return ssa.Phi{Name: w.word(), Out: w.word(), Left: w.word(), Right: w.word()}
}

func (w *wild) versioned() ssa.Stmt {
	return ssa.Stmt{Kind: w.kind(), Name: w.word(), Type: few(w, 1, w.typ), Exprs: few(w, 2, w.expr), Body: few(w, 3, w.versioned), Else: few(w, 3, w.versioned), Phis: few(w, 2, w.phi), At: w.Int()}
}

// baseOf: what stands ahead of the first #.
func baseOf(s string) string {
	if at := strings.IndexByte(s, '#'); at >= 0 {
		return s[:at]
	}
	return s
}

// based: as erase, but that names are given by f.
func basedExpr(e api.Expr) api.Expr {
	if e.Op == "var" {
		e.Name = baseOf(e.Name)
	}
	e.Args = slices.Clone(e.Args)
	for i, part := range e.Args {
		e.Args[i] = basedExpr(part)
	}
	return e
}

func based(l []ssa.Stmt) []api.Stmt {
	var out []api.Stmt
	for _, s := range l {
		name := s.Name
		if s.Kind == "let" || s.Kind == "set" {
			name = baseOf(name)
		}
		o := api.Stmt{Kind: s.Kind, Name: name, Type: s.Type, Body: based(s.Body), Else: based(s.Else), At: s.At}
		for _, e := range s.Exprs {
			o.Exprs = append(o.Exprs, basedExpr(e))
		}
		out = append(out, o)
	}
	return out
}

// P1, P14.3: Erase and Versions of any statements. Of what no body has (Phis of other statements, blocks in them) Versions only ends.
func TestWildVersions(t *testing.T) {
	w := &wild{Rand: rand.New(rand.NewSource(5))}
	for i := range 20000 {
		w.room = 1 + i%30
		l := few(w, 4, w.versioned)
		if got, want := ssa.Erase(l), based(l); !alike(got, want) {
			t.Fatalf("Erase of %+v: %+v; want %+v", l, got, want)
		}
		ssa.Versions(l)
		tame(l)
		if got, want := ssa.Versions(l), versionsOf(l); !slices.Equal(got, want) {
			t.Fatalf("Versions of %+v: %v; want %v", l, got, want)
		}
	}
}

// tame: only ifs and whiles have Phis and blocks, whiles no Else.
func tame(l []ssa.Stmt) {
	for i, s := range l {
		if s.Kind != "if" {
			l[i].Else = nil
		}
		if s.Kind != "if" && s.Kind != "while" {
			l[i].Body, l[i].Phis = nil, nil
		}
		tame(s.Body)
		tame(s.Else)
	}
}

// P1: bodies that no text is read as, names that hold a # and names that aren't there: Convert ends, what it makes is made once, and but for the names it is the body.
func TestWildBodies(t *testing.T) {
	w := &wild{Rand: rand.New(rand.NewSource(6))}
	for i := range 20000 {
		w.room = 1 + i%40
		params, list := few(w, 3, w.word), few(w, 5, w.stmt)
		got := ssa.Convert(params, list)
		plain, erased := based(got), ssa.Erase(got)
		if !alike(erased, plain) || !alike(plain, based(asGiven(list))) {
			t.Fatalf("Convert(%q, %+v): %+v", params, list, got)
		}
		seen := map[string]bool{}
		for _, name := range params {
			seen[ssa.Version(name)] = true
		}
		for _, version := range ssa.Versions(got) {
			if seen[version] {
				t.Fatalf("Convert(%q, %+v) makes %s twice", params, list, version)
			}
			seen[version] = true
		}
		wantMade(t, got, seen)
	}
}

// asGiven: a body as statements with versions, its names as they are.
func asGiven(list []api.Stmt) []ssa.Stmt {
	var out []ssa.Stmt
	for _, s := range list {
		out = append(out, ssa.Stmt{Kind: s.Kind, Name: s.Name, Type: s.Type, Exprs: s.Exprs, Body: asGiven(s.Body), Else: asGiven(s.Else), At: s.At})
	}
	return out
}

// wantMade: what Phis choose is made somewhere.
func wantMade(t *testing.T, l []ssa.Stmt, seen map[string]bool) {
	t.Helper()
	for _, s := range l {
		for _, p := range s.Phis {
			if !seen[p.Left] || !seen[p.Out] || !seen[p.Right] && p.Right != "" || !strings.HasPrefix(p.Left, p.Name+"#") {
				t.Fatalf("%+v in %s", p, shownOne(s))
			}
		}
		wantMade(t, s.Body, seen)
		wantMade(t, s.Else, seen)
	}
}

const deep = 1 << 16

// nested: a statement in so many others.
func nested(inner api.Stmt, around func(i int, s api.Stmt) api.Stmt) []api.Stmt {
	for i := range deep - 1 {
		inner = around(i, inner)
	}
	return []api.Stmt{inner}
}

// P1: bodies that lie as deep in one another as may be.
func TestDeepBodies(t *testing.T) {
	yes := []api.Expr{{Op: "true"}}
	set := api.Stmt{Kind: "set", Name: "x", Exprs: []api.Expr{variable("x")}}
	let := api.Stmt{Kind: "let", Name: "x", Exprs: []api.Expr{numeral("1")}}
	for what, around := range map[string]func(i int, s api.Stmt) api.Stmt{
		"if":    func(_ int, s api.Stmt) api.Stmt { return api.Stmt{Kind: "if", Exprs: yes, Body: []api.Stmt{s}} },
		"else":  func(_ int, s api.Stmt) api.Stmt { return api.Stmt{Kind: "if", Exprs: yes, Else: []api.Stmt{s}} },
		"while": func(_ int, s api.Stmt) api.Stmt { return api.Stmt{Kind: "while", Exprs: yes, Body: []api.Stmt{s}} },
		"each": func(i int, s api.Stmt) api.Stmt {
			return api.Stmt{Kind: []string{"if", "while"}[i%2], Exprs: yes, Body: []api.Stmt{set, s, set}}
		},
		"let": func(i int, s api.Stmt) api.Stmt {
			own, again := let, set
			own.Name, again.Name = "x"+strconv.Itoa(i), "x"+strconv.Itoa(i)
			return api.Stmt{Kind: "while", Exprs: yes, Body: []api.Stmt{{Kind: "if", Exprs: yes, Body: []api.Stmt{own, again}}, s}}
		},
		"return": func(_ int, s api.Stmt) api.Stmt {
			return api.Stmt{Kind: "if", Exprs: yes, Body: []api.Stmt{s}, Else: []api.Stmt{{Kind: "return"}}}
		},
	} {
		list := append([]api.Stmt{let}, nested(set, around)...)
		got := ssa.Convert(nil, list)
		outs := map[string]bool{}
		for _, version := range ssa.Versions(got) {
			if outs[version] {
				t.Fatalf("%s: %s is made twice", what, version)
			}
			outs[version] = true
		}
		if count := len(ssa.Erase(got)); count != 2 {
			t.Errorf("%s: Erase has %d statements", what, count)
		}
		if phis := got[1].Phis; what != "return" && len(phis) != 1 || what == "return" && len(phis) != 0 {
			t.Errorf("%s: the outermost one's Phis are %v", what, phis)
		}
	}
}

// P1: expressions and types that do.
func TestDeepParts(t *testing.T) {
	e, typ := variable("x"), api.Type{Kind: api.Int}
	for range deep - 1 {
		e = api.Expr{Op: "neg", Args: []api.Expr{e}}
		typ = api.Type{Kind: api.List, Elem: []api.Type{typ}}
	}
	got := ssa.Convert([]string{"x"}, []api.Stmt{{Kind: "let", Name: "y", Type: []api.Type{typ}, Exprs: []api.Expr{e}}})
	in := got[0].Exprs[0]
	for len(in.Args) == 1 {
		in = in.Args[0]
	}
	if in.Name != "x#0" {
		t.Errorf("deep in an expression stands %s", in.Name)
	}
	back, levels := ssa.Erase(got)[0].Type[0], 0
	for len(back.Elem) == 1 {
		back = back.Elem[0]
		levels++
	}
	if levels != deep-1 {
		t.Errorf("a type's parts lie %d deep", levels)
	}
}

// P1: very many statements and names, also within many whiles.
func TestVeryMany(t *testing.T) {
	const many = 100000
	var list, sets []api.Stmt
	var params []string
	for i := range many {
		name := "n" + strconv.Itoa(i)
		params = append(params, "p"+name)
		list = append(list, api.Stmt{Kind: "let", Name: name, Exprs: []api.Expr{variable("p" + name)}}, api.Stmt{Kind: "set", Name: name, Exprs: []api.Expr{variable(name)}})
		sets = append(sets, api.Stmt{Kind: "set", Name: "n7", Exprs: []api.Expr{variable(name)}})
		if i%1000 == 7 {
			list = append(list, api.Stmt{Kind: "while", Exprs: []api.Expr{variable(name)}, Body: []api.Stmt{{Kind: "set", Name: name, Exprs: []api.Expr{variable("n0")}}}})
		}
	}
	for range 2000 {
		sets = []api.Stmt{{Kind: "while", Exprs: []api.Expr{variable("n7")}, Body: sets}}
	}
	got := ssa.Convert(params, append(list, sets...))
	if len(ssa.Versions(got)) != 3*many+2*many/1000+2000 {
		t.Errorf("%d versions", len(ssa.Versions(got)))
	}
	if last := got[len(got)-1]; len(last.Phis) != 1 || last.Phis[0].Name != "n7" {
		t.Errorf("the last while has %v", last.Phis)
	}
}
