package typing_test

import (
	"fmt"
	"reflect"
	"slices"
	"strings"
	"testing"

	"surety/api"
	"surety/classes"
	"surety/syntax"
	"surety/typing"
)

// wantReckoned: Check answers the typed program that the test reckons, and what follows (P13.7) holds.
func wantReckoned(t *testing.T, p api.Program) {
	t.Helper()
	text := short(syntax.Print(p))
	want, f := reckoned(p)
	if f != ok {
		t.Errorf("the test reckons %v of %s", f, text)
		return
	}
	table, out := typed(t, p)
	wantDressed(t, table, out)
	if got, want := same(undressed(out)), same(want); !reflect.DeepEqual(got, want) {
		t.Errorf("Check of %s:\n%s", text, strings.Join(differences(reflect.ValueOf(got), reflect.ValueOf(want), "program"), "\n"))
	}
	wantCalls(t, table, out)
	wantClasses(t, table, out, p)
	back := renamed(out)
	if got := syntax.Print(back); got != syntax.Print(p) {
		t.Errorf("P13.7: the typed program of %s is printed as %s", text, short(got))
	}
	if _, again := typed(t, back); !reflect.DeepEqual(again, out) {
		t.Errorf("a typed program that is checked again is another one: %s", text)
	}
}

// copied: a tree in new memory, where the empty list is nil.
func copied[T any](tree T) T {
	v := reflect.ValueOf(&tree).Elem()
	copyLists(v)
	return tree
}

func copyLists(v reflect.Value) {
	switch v.Kind() {
	case reflect.Struct:
		for i := range v.NumField() {
			copyLists(v.Field(i))
		}
	case reflect.Slice:
		if v.Len() == 0 {
			v.SetZero()
			return
		}
		list := reflect.MakeSlice(v.Type(), v.Len(), v.Len())
		reflect.Copy(list, v)
		v.Set(list)
		for i := range v.Len() {
			copyLists(v.Index(i))
		}
	}
}

func same(p api.Program) api.Program { return copied(p) }

// undressed: a typed program where the predicates in types of expressions (but lists) have no types.
func undressed(p api.Program) api.Program {
	p = copied(p)
	eachPlain(reflect.ValueOf(&p).Elem(), func(e *api.Expr) {
		if e.Op != "list" {
			for i := range e.Type {
				e.Type[i] = untyped(e.Type[i])
			}
		}
	})
	return p
}

// renamed: a typed program whose calls have the names that the methods have.
func renamed(p api.Program) api.Program {
	p = copied(p)
	eachPlain(reflect.ValueOf(&p).Elem(), func(e *api.Expr) {
		if e.Op == "call" {
			e.Name, _, _ = strings.Cut(e.Name, "(")
		}
	})
	return p
}

// differences: the places at which two trees differ, a few of them.
func differences(a, b reflect.Value, place string) []string {
	var out []string
	switch a.Kind() {
	case reflect.Struct:
		for i := range a.NumField() {
			out = append(out, differences(a.Field(i), b.Field(i), place+"."+a.Type().Field(i).Name)...)
		}
	case reflect.Slice:
		if a.Len() != b.Len() {
			return []string{place + ": lists of other lengths"}
		}
		for i := range a.Len() {
			out = append(out, differences(a.Index(i), b.Index(i), place+"[]")...)
		}
	default:
		if !a.Equal(b) {
			return []string{fmt.Sprintf("%s: %v; want %v", place, a, b)}
		}
	}
	return out[:min(len(out), 5)]
}

// wantDressed: each expression has one type, and those in the predicates of its type's elements have theirs, too.
func wantDressed(t *testing.T, table *classes.Table, out api.Program) {
	t.Helper()
	r := reckoner{out.Classes, table}
	eachWithin(reflect.ValueOf(&out).Elem(), nil, func(e *api.Expr, within []int) {
		if len(e.Type) != 1 {
			t.Fatalf("%s has %d types", syntax.Text(*e), len(e.Type))
		}
		if e.Op != "list" {
			r.dressed(t, *e, within)
		}
	})
}

// dressed: of a predicate that stands in a type of one of its own expressions no types are wanted.
func (r reckoner) dressed(t *testing.T, e api.Expr, within []int) {
	t.Helper()
	own := e.Type[0]
	if own.Null || len(own.Pred) > 0 || own.At != 0 {
		t.Errorf("the type of %s is %+v", syntax.Text(e), own)
	}
	for _, part := range own.Elem {
		r.dressedPart(t, part, within)
	}
}

func (r reckoner) dressedPart(t *testing.T, part api.Type, within []int) {
	t.Helper()
	for _, inner := range part.Elem {
		r.dressedPart(t, inner, within)
	}
	for _, pred := range part.Pred {
		if slices.Contains(within, pred.At) {
			continue
		}
		in := scope{pred: true, v: []api.Type{naked(part)}}
		want, f := r.expr(plain(pred), in)
		got := copied(pred)
		around := append(slices.Clone(within), pred.At)
		eachPlain(reflect.ValueOf(&got).Elem(), func(e *api.Expr) {
			if len(e.Type) != 1 {
				t.Fatalf("in a type's predicate %s has %d types", syntax.Text(*e), len(e.Type))
			}
			r.dressed(t, *e, around)
			e.Type[0] = untyped(e.Type[0])
		})
		if f != ok || !reflect.DeepEqual(copied(got), copied(want)) {
			t.Errorf("in a type the predicate %s isn't typed as the test reckons", syntax.Text(pred))
		}
	}
}

// wantCalls: each call's Name is a method of its object's class, whose result it has.
func wantCalls(t *testing.T, table *classes.Table, out api.Program) {
	t.Helper()
	eachPlain(reflect.ValueOf(&out).Elem(), func(e *api.Expr) {
		if e.Op != "call" {
			return
		}
		m, there := table.Dispatch(typing.Of(e.Args[0]).Name, e.Name)
		if !there || m.Sig != e.Name || classes.Base(m.Method.Result) != classes.Base(typing.Of(*e)) || len(m.Method.Params) != len(e.Args)-1 {
			t.Errorf("%s calls %+v", syntax.Text(*e), m)
		}
	})
}

// wantClasses: the table is that of the typed program, whose classes are those of the program.
func wantClasses(t *testing.T, table *classes.Table, out, p api.Program) {
	t.Helper()
	fresh, f := classes.New(p)
	if f != ok || len(out.Classes) != len(p.Classes) || !slices.Equal(fresh.Names(), table.Names()) || !slices.Equal(fresh.Slots(), table.Slots()) {
		t.Errorf("the classes are others: %v", table.Names())
		return
	}
	for i, c := range p.Classes {
		got, _ := table.Class(c.Name)
		if !reflect.DeepEqual(same(api.Program{Classes: []api.Class{got}}), same(api.Program{Classes: out.Classes[i : i+1]})) {
			t.Errorf("the table has another class %s than the typed program", c.Name)
		}
		if !slices.Equal(fresh.Above(c.Name), table.Above(c.Name)) || !slices.Equal(fresh.Vtable(c.Name), table.Vtable(c.Name)) {
			t.Errorf("class %s is another one", c.Name)
		}
		got.Fields, got.Invs, got.Ctors, got.Meths = nil, nil, nil, nil
		c.Fields, c.Invs, c.Ctors, c.Meths = nil, nil, nil, nil
		if !reflect.DeepEqual(copied(got), copied(c)) {
			t.Errorf("class %s has another head: %+v", c.Name, got)
		}
	}
}
