package classes_test

import (
	"math/rand"
	"strings"
	"testing"

	"surety/api"
	"surety/classes"
	"surety/syntax"
)

// wild draws trees that mostly no text is read as.
type wild struct {
	*rand.Rand
	room int
}

// few: so many parts, none where there is no room.
func few[T any](w *wild, most int, draw func() T) []T {
	list := []T{}
	for range w.Intn(most + 1) {
		if w.room > 0 {
			w.room--
			list = append(list, draw())
		}
	}
	return list
}

func (w *wild) word() string {
	words := []string{"", "A", "B", "C", "D", "I", "J", "f", "f(A", ",", ")", "A,B", "\x00\xff"}
	return words[w.Intn(len(words))]
}

func (w *wild) kind() int { return []int{-1, 0, 1, 2, 3, 3, 3, 4, 4, 5, 6, 1 << 40}[w.Intn(12)] }

func (w *wild) typ() api.Type {
	return api.Type{Kind: w.kind(), Name: w.word(), Null: w.Intn(2) == 0, Elem: few(w, 2, w.typ), Pred: few(w, 2, w.expr), At: w.Int()}
}

func (w *wild) expr() api.Expr {
	return api.Expr{Op: w.word(), Name: w.word(), Args: few(w, 2, w.expr), Type: few(w, 2, w.typ), At: -w.Int()}
}

func (w *wild) stmt() api.Stmt {
	return api.Stmt{Kind: w.word(), Name: w.word(), Type: few(w, 2, w.typ), Exprs: few(w, 2, w.expr), Body: few(w, 2, w.stmt), Else: few(w, 2, w.stmt)}
}

func (w *wild) param() api.Param { return api.Param{Name: w.word(), Type: w.typ(), At: w.Int()} }

func (w *wild) field() api.Field {
	return api.Field{Name: w.word(), Type: w.typ(), Final: w.Intn(2) == 0, At: w.Int()}
}

func (w *wild) ctor() api.Ctor {
	return api.Ctor{Params: few(w, 3, w.param), HasSuper: w.Intn(2) == 0, Super: few(w, 2, w.expr), Body: few(w, 2, w.stmt), At: w.Int()}
}

func (w *wild) method() api.Method {
	return api.Method{Name: w.word(), Params: few(w, 2, w.param), Result: w.typ(), Body: few(w, 2, w.stmt), Abstract: w.Intn(2) == 0, At: w.Int()}
}

func (w *wild) class() api.Class {
	c := api.Class{Name: w.word(), Iface: w.Intn(2) == 0, Above: few(w, 1, w.word), At: w.Int()}
	if w.Intn(3) == 0 {
		c.Super = w.word()
	}
	c.Fields, c.Invs, c.Ctors, c.Meths = few(w, 1, w.field), few(w, 2, w.expr), few(w, 1, w.ctor), few(w, 2, w.method)
	return c
}

// P1, P12.2 to P12.7: trees that no text is read as: interfaces with fields and ctors or that extend a class, names that are none, types of no kind and lists of nothing. The chapter's words hold of them as of others.
func TestWildTrees(t *testing.T) {
	w := &wild{Rand: rand.New(rand.NewSource(5))}
	right := 0
	for i := range 20000 {
		w.room = 5 + i%40
		p := api.Program{Classes: few(w, 5, w.class), Main: few(w, 1, w.stmt)}
		want, _ := reckoned(p)
		if want != (api.Fault{}) {
			wantFault(t, p, want)
			continue
		}
		if right++; right%10 == 0 {
			wantReckoned(t, p)
		} else {
			tableOf(t, p)
		}
	}
	if right < 2000 {
		t.Errorf("%d wild trees without a fault", right)
	}
}

// P12.1: Base and Signature of any types.
func TestWildTypes(t *testing.T) {
	w := &wild{Rand: rand.New(rand.NewSource(6))}
	for range 5000 {
		w.room = 20
		typ, m := w.typ(), w.method()
		if got, want := classes.Base(typ), base(typ); got != want {
			t.Errorf("Base(%+v): %q; want %q", typ, got, want)
		}
		if got, want := classes.Signature(m.Name, m.Params), signature(m); got != want {
			t.Errorf("Signature: %q; want %q", got, want)
		}
	}
}

// P12.7: below a class an interface would not have its methods: there is no such table.
func TestInterfaceBelowClass(t *testing.T) {
	class := api.Class{Name: "A", Meths: []api.Method{{Name: "f"}}, At: 1}
	for _, super := range []string{"A", "I"} {
		wantFault(t, api.Program{Classes: []api.Class{class, {Name: "I", Iface: true, At: 2}, {Name: "J", Iface: true, Super: super, At: 3}}}, api.Fault{Code: api.ErrKind, At: 3})
	}
	wantFault(t, api.Program{Classes: []api.Class{class, {Name: "J", Iface: true, Super: "B", At: 3}}}, api.Fault{Code: api.ErrNoType, At: 3})
}

// P12.2, P12.4: a field of an interface, which no text has, is none of the chain's.
func TestFieldOfInterface(t *testing.T) {
	fields := []api.Field{{Name: "x", At: 1}}
	p := api.Program{Classes: []api.Class{{Name: "I", Iface: true, Fields: fields}, {Name: "A", Above: []string{"I"}, Fields: fields}, {Name: "B", Super: "A"}}}
	wantReckoned(t, p)
	if got := ownedNames(tableOf(t, p).Fields("B")); len(got) != 1 || got[0] != "A.x" {
		t.Errorf("Fields(B): %v", got)
	}
}

// P1: lists of very many parts are refused, or no matter.
func TestVeryMany(t *testing.T) {
	const many = 200000
	wantFault(t, api.Program{Classes: make([]api.Class, many)}, api.Fault{Code: api.ErrMany})
	wantFault(t, api.Program{Classes: []api.Class{{At: 4, Above: make([]string, many)}}}, api.Fault{Code: api.ErrMany, At: 4})
	wantFault(t, api.Program{Classes: []api.Class{{Name: "A", Meths: []api.Method{{At: 5, Params: make([]api.Param, many)}}}}}, api.Fault{Code: api.ErrMany, At: 5})
	wantFault(t, api.Program{Classes: []api.Class{{Name: "A", Ctors: make([]api.Ctor, many)}}}, api.Fault{Code: api.ErrTwice})
	table := tableOf(t, api.Program{Classes: []api.Class{{Name: "A", Ctors: []api.Ctor{{Super: make([]api.Expr, many), Body: make([]api.Stmt, many)}}}}})
	if c, there := table.Class("A"); !there || len(c.Ctors) != 1 || len(c.Ctors[0].Super) != many || len(c.Ctors[0].Body) != many {
		t.Errorf("Class(A) has %d ctors", len(c.Ctors))
	}
	if got := classes.Signature("f", make([]api.Param, many)); len(got) != len("f()")+many*len("void,")-1 {
		t.Errorf("Signature of %d parameters has %d bytes", many, len(got))
	}
}

// P1: trees whose parts lie as deep in one another as anything that is given may.
func TestDeepTrees(t *testing.T) {
	const deep = 1<<16 - 10
	e, typ, stmt := api.Expr{Op: "var", Name: "x"}, api.Type{Kind: api.Ref, Name: "A", At: 9}, api.Stmt{Kind: "return"}
	for range deep {
		e = api.Expr{Op: "neg", Args: []api.Expr{e}}
		typ = api.Type{Kind: api.List, Elem: []api.Type{typ}}
		stmt = api.Stmt{Kind: "while", Body: []api.Stmt{stmt}}
	}
	m := api.Method{Name: "f", Params: []api.Param{{Name: "a", Type: typ}}, Result: typ, Body: []api.Stmt{stmt}}
	a := api.Class{Name: "A", Fields: []api.Field{{Name: "x", Type: typ}}, Invs: []api.Expr{e}, Meths: []api.Method{m}}
	b := api.Class{Name: "B", Super: "A", Meths: []api.Method{m}}
	wantFault(t, api.Program{Classes: []api.Class{b}}, api.Fault{Code: api.ErrNoType})
	table := tableOf(t, api.Program{Classes: []api.Class{a, b}})
	sig := "f(A" + strings.Repeat("[]", deep) + ")"
	if got := table.Slots(); len(got) != 1 || got[0] != sig {
		t.Errorf("Slots: %d", len(got))
	}
	if m, there := table.Dispatch("B", sig); !there || m.Owner != "B" || syntax.TypeText(m.Method.Result) != syntax.TypeText(typ) {
		t.Errorf("Dispatch of a deep signature: %q, %v", m.Owner, there)
	}
	if invs := table.Invariants("B"); len(invs) != 1 || syntax.Text(invs[0].Expr) != syntax.Text(e) {
		t.Errorf("Invariants: %d", len(invs))
	}
	none := tableOf(t, api.Program{})
	if f := none.Known(typ); f != (api.Fault{Code: api.ErrNoType, At: 9}) {
		t.Errorf("Known of a deep type: %v", f)
	}
}
