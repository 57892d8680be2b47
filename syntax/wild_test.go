package syntax_test

import (
	"math/rand"
	"strings"
	"testing"

	"surety/api"
	"surety/syntax"
)

// wild draws trees that mostly no text is read as.
type wild struct {
	*rand.Rand
	room int
}

// few: so many parts, none where there is no room.
func few[T any](w *wild, draw func() T) []T {
	var list []T
	for range w.Intn(4) {
		if w.room > 0 {
			w.room--
			list = append(list, draw())
		}
	}
	return list
}

func (w *wild) word() string {
	words := strings.Fields("num true false null var this field call new list index len read neg not + - * / % < <= > >= == != && || => let set elem if while return assert print do x class { } ( ")
	words = append(words, "", " ", "\n", "\x00\xff", "//", "=>=>")
	return words[w.Intn(len(words))]
}

func (w *wild) kind() int { return []int{-1, 0, 1, 2, 3, 4, 5, 6, 1 << 40}[w.Intn(9)] }

func (w *wild) expr() api.Expr {
	return api.Expr{Op: w.word(), Name: w.word(), Args: few(w, w.expr), Type: few(w, w.typ), At: w.Int()}
}

func (w *wild) typ() api.Type {
	return api.Type{Kind: w.kind(), Name: w.word(), Null: w.Intn(2) == 0, Elem: few(w, w.typ), Pred: few(w, w.expr), At: -w.Int()}
}

func (w *wild) stmt() api.Stmt {
	return api.Stmt{Kind: w.word(), Name: w.word(), Type: few(w, w.typ), Exprs: few(w, w.expr), Body: few(w, w.stmt), Else: few(w, w.stmt)}
}

func (w *wild) param() api.Param { return api.Param{Name: w.word(), Type: w.typ()} }

func (w *wild) class() api.Class {
	return api.Class{
		Name: w.word(), Iface: w.Intn(2) == 0, Super: w.word(), Above: few(w, w.word),
		Fields: few(w, func() api.Field { return api.Field{Name: w.word(), Type: w.typ(), Final: w.Intn(2) == 0} }),
		Invs:   few(w, w.expr),
		Ctors: few(w, func() api.Ctor {
			return api.Ctor{Params: few(w, w.param), HasSuper: w.Intn(2) == 0, Super: few(w, w.expr), Body: few(w, w.stmt)}
		}),
		Meths: few(w, func() api.Method {
			return api.Method{Name: w.word(), Params: few(w, w.param), Result: w.typ(), Body: few(w, w.stmt), Abstract: w.Intn(2) == 0}
		}),
	}
}

// P1: Print, Text and TypeText of trees that no text is read as end; what they answer, Parse takes as any text.
func TestWildTrees(t *testing.T) {
	syntax.Print(api.Program{})
	syntax.Print(api.Program{Classes: make([]api.Class, 3), Main: make([]api.Stmt, 3)})
	syntax.Text(api.Expr{})
	syntax.TypeText(api.Type{})
	w := &wild{Rand: rand.New(rand.NewSource(5))}
	for range 3000 {
		w.room = 60
		syntax.Parse(syntax.Print(api.Program{Classes: few(w, w.class), Main: few(w, w.stmt)}))
		w.room = 30
		syntax.Parse("main { print " + syntax.Text(w.expr()) + "; }")
		w.room = 30
		syntax.Parse("main { let x: " + syntax.TypeText(w.typ()) + " = 1; }")
	}
}

// P1: each op and kind with lists of each small size.
func TestSmallWildTrees(t *testing.T) {
	for _, word := range strings.Fields("num true false null var this field call new list index len read neg not + - * / % < <= > >= == != && || => let set elem if while return assert print do other") {
		for size := range 4 {
			e := api.Expr{Op: word, Args: make([]api.Expr, size), Type: make([]api.Type, size)}
			s := api.Stmt{Kind: word, Type: make([]api.Type, size), Exprs: make([]api.Expr, size), Else: make([]api.Stmt, size)}
			syntax.Text(e)
			syntax.TypeText(api.Type{Kind: api.List, Pred: []api.Expr{e}})
			syntax.Print(api.Program{Main: []api.Stmt{s, {Kind: word, Exprs: []api.Expr{e}}}})
		}
	}
	for kind := -1; kind < 8; kind++ {
		for size := range 3 {
			syntax.TypeText(api.Type{Kind: kind, Elem: make([]api.Type, size), Pred: make([]api.Expr, size)})
		}
	}
}

// P1: trees whose parts lie deep in one another: as deep as anything that is given may.
func TestDeepTrees(t *testing.T) {
	const deep = 1 << 16
	for _, op := range strings.Fields("neg not field call index len new list + => == other") {
		for side := range 2 {
			e := name("x", 0)
			for range deep {
				args := []api.Expr{name("y", 0), name("z", 0)}
				args[side] = e
				e = api.Expr{Op: op, Name: "f", Args: args}
			}
			syntax.Text(e)
		}
	}
	list, pred := intType(0), intType(0)
	for range deep {
		list = listType(list, 0)
		pred = api.Type{Kind: api.Int, Pred: one(api.Expr{Op: "list", Type: []api.Type{pred}})}
	}
	syntax.TypeText(list)
	syntax.TypeText(pred)
	chain := api.Stmt{Kind: "if"}
	for range deep {
		chain = api.Stmt{Kind: "if", Else: []api.Stmt{chain}}
	}
	syntax.Print(api.Program{Main: []api.Stmt{chain}})
	block := api.Stmt{Kind: "return"}
	for range 4000 {
		block = api.Stmt{Kind: "while", Body: []api.Stmt{block}}
	}
	syntax.Print(api.Program{Main: []api.Stmt{block}})
}

// P1: Parse of any bytes ends, and a fault's place lies in the text.
func TestAnyTexts(t *testing.T) {
	r := rand.New(rand.NewSource(6))
	for range 3000 {
		s := []byte(ordinary[:r.Intn(len(ordinary))])
		for range r.Intn(4) {
			if len(s) > 0 {
				s[r.Intn(len(s))] = byte(r.Intn(256))
			}
		}
		_, f := syntax.Parse(string(s))
		if f.At < 0 || f.At > len(s) || f.Code == api.OK && f.At != 0 {
			t.Errorf("Parse(%q): %v", short(string(s)), f)
		}
	}
	for _, piece := range []string{"(", "{", "[", "-", "!", "main", "class", "x", "7", ";", "if (x) { ", "print ", "list ", "x.f(", "a => ", "x + ", "{v | ", "class A { ", "def f(", "else "} {
		many := strings.Repeat(piece, api.MaxSource/len(piece))
		for _, ahead := range []string{"", "main {", "main { print ", "main { let x: int", "class A { ", "class A { final x: "} {
			s := ahead + many
			syntax.Parse(s[:min(len(s), api.MaxSource)])
		}
	}
}
