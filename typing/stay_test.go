package typing_test

import (
	"cmp"
	"math/rand"
	"reflect"
	"slices"
	"sync"
	"testing"
	"unsafe"

	"surety/api"
	"surety/classes"
	"surety/syntax"
	"surety/typing"
)

// span: a piece of memory.
type span struct {
	from, to uintptr
}

// spans: those of all lists in a value, with their spare room, and of all texts.
func spans(v reflect.Value) (lists, texts []span) {
	switch v.Kind() {
	case reflect.String:
		if v.Len() > 0 {
			from := uintptr(unsafe.Pointer(unsafe.StringData(v.String())))
			texts = append(texts, span{from, from + uintptr(v.Len())})
		}
	case reflect.Struct:
		for i := range v.NumField() {
			l, s := spans(v.Field(i))
			lists, texts = append(lists, l...), append(texts, s...)
		}
	case reflect.Slice:
		if v.Cap() > 0 && v.Type().Elem().Size() > 0 {
			from := uintptr(v.UnsafePointer())
			lists = append(lists, span{from, from + uintptr(v.Cap())*v.Type().Elem().Size()})
		}
		for i := range v.Len() {
			l, s := spans(v.Index(i))
			lists, texts = append(lists, l...), append(texts, s...)
		}
	}
	return lists, texts
}

// wantApart: no two of the pieces of memory have anything in common.
func wantApart(t *testing.T, what string, all []span) {
	t.Helper()
	slices.SortFunc(all, func(a, b span) int { return cmp.Compare(a.from, b.from) })
	for i := 1; i < len(all); i++ {
		if all[i].from < all[i-1].to {
			t.Fatalf("two %s share memory", what)
		}
	}
}

// wantNew: an answer's texts and lists have nothing in common with one another, nor with those of others.
func wantNew(t *testing.T, answer any, others ...any) {
	t.Helper()
	lists, texts := spans(reflect.ValueOf(answer))
	wantApart(t, "lists of an answer", slices.Clone(lists))
	wantApart(t, "texts of an answer", slices.Clone(texts))
	for _, other := range others {
		l, s := spans(reflect.ValueOf(other))
		wantForeign(t, "lists", lists, l)
		wantForeign(t, "texts", texts, s)
	}
}

func wantForeign(t *testing.T, what string, mine, others []span) {
	t.Helper()
	places := map[uintptr]bool{}
	for _, s := range others {
		for at := s.from; at < s.to; at++ {
			places[at] = true
		}
	}
	for _, s := range mine {
		for at := s.from; at < s.to; at++ {
			if places[at] {
				t.Fatalf("an answer shares %s with something else", what)
			}
		}
	}
}

// spoil: every list's parts and spare room become something else.
func spoil(v reflect.Value) {
	switch v.Kind() {
	case reflect.Struct:
		for i := range v.NumField() {
			spoil(v.Field(i))
		}
	case reflect.Slice:
		for i := range v.Len() {
			spoil(v.Index(i))
		}
		whole := v.Slice(0, v.Cap())
		for i := range whole.Len() {
			if whole.Index(i).Kind() == reflect.String {
				whole.Index(i).SetString("spoilt")
			} else {
				whole.Index(i).SetZero()
			}
		}
	}
}

// roomy: a tree whose lists have spare room.
func roomy(v reflect.Value) {
	switch v.Kind() {
	case reflect.Struct:
		for i := range v.NumField() {
			roomy(v.Field(i))
		}
	case reflect.Slice:
		size := v.Len()
		list := reflect.MakeSlice(v.Type(), size+2, size+2)
		reflect.Copy(list, v)
		for i := range size {
			roomy(list.Index(i))
		}
		v.Set(list.Slice3(0, size, size+2))
	}
}

// wholeOf: a tree with its lists' spare room as parts.
func wholeOf(v reflect.Value) {
	switch v.Kind() {
	case reflect.Struct:
		for i := range v.NumField() {
			wholeOf(v.Field(i))
		}
	case reflect.Slice:
		for i := range v.Len() {
			wholeOf(v.Index(i))
		}
		v.Set(v.Slice(0, v.Cap()))
	}
}

// several: programs without faults of this layer, and with such.
func several(t *testing.T) (right, wrong []string) {
	right = []string{ordinary, within("print 1;"), filled(), "main { }"}
	r := rand.New(rand.NewSource(3))
	for len(right) < 25 {
		p := drawn(r, 1000000)
		if _, f := reckoned(reread(t, p)); f == ok {
			right = append(right, syntax.Print(p))
		}
	}
	for i, s := range slips() {
		if i%4 == 0 {
			plain, _ := marked(t, filled(s))
			wrong = append(wrong, plain)
		}
	}
	return right, append(wrong, "class A { } class A { } main { }")
}

// P2: Check leaves the program and its lists' spare room as they are, with a fault or without.
func TestProgramStays(t *testing.T) {
	right, wrong := several(t)
	for _, s := range append(right, wrong...) {
		handed, kept := program(t, s), program(t, s)
		roomy(reflect.ValueOf(&handed).Elem())
		roomy(reflect.ValueOf(&kept).Elem())
		typing.Check(handed)
		wholeOf(reflect.ValueOf(&handed).Elem())
		wholeOf(reflect.ValueOf(&kept).Elem())
		if !reflect.DeepEqual(handed, kept) {
			t.Errorf("Check made another program of %s", short(s))
		}
	}
}

// P2: a typed program is left as it is, too, when it is checked again or asked for types.
func TestTypedProgramStays(t *testing.T) {
	_, handed := typed(t, program(t, ordinary))
	_, kept := typed(t, program(t, ordinary))
	roomy(reflect.ValueOf(&handed).Elem())
	roomy(reflect.ValueOf(&kept).Elem())
	table := tableOf(t, "class A { }")
	typing.Check(handed)
	eachPlain(reflect.ValueOf(&handed).Elem(), func(e *api.Expr) {
		of := typing.Of(*e)
		typing.Fits(table, of, typing.Of(*e))
		spoil(reflect.ValueOf(&of).Elem())
	})
	wholeOf(reflect.ValueOf(&handed).Elem())
	wholeOf(reflect.ValueOf(&kept).Elem())
	if !reflect.DeepEqual(handed, kept) {
		t.Errorf("a typed program became another one")
	}
}

// tableAnswers: what a table tells of its classes.
func tableAnswers(table *classes.Table) []api.Class {
	var out []api.Class
	for _, name := range table.Names() {
		c, _ := table.Class(name)
		out = append(out, c)
	}
	return out
}

// P2: the typed program and the table are new memory: none of it is the program's, nor another answer's, nor twice in one.
func TestAnswersAreNew(t *testing.T) {
	right, _ := several(t)
	for _, s := range right {
		p := program(t, s)
		table, out := typed(t, p)
		_, again := typed(t, p)
		wantNew(t, out, p, again, tableAnswers(table))
		fromTyped, second := typed(t, renamed(out))
		wantNew(t, second, out, tableAnswers(fromTyped))
	}
}

// P2: what is changed later, the program or an answer, changes no answer.
func TestChanged(t *testing.T) {
	right, _ := several(t)
	for _, s := range right {
		p := program(t, s)
		table, out := typed(t, p)
		_, changed := typed(t, p)
		want, wantClasses := copied(out), copied(tableAnswers(table))
		spoil(reflect.ValueOf(&p).Elem())
		spoil(reflect.ValueOf(&changed).Elem())
		if !reflect.DeepEqual(copied(out), want) || !reflect.DeepEqual(copied(tableAnswers(table)), wantClasses) {
			t.Errorf("an answer hangs on what was changed: %s", short(s))
		}
		spoil(reflect.ValueOf(&out).Elem())
		if !reflect.DeepEqual(copied(tableAnswers(table)), wantClasses) {
			t.Errorf("the table hangs on the typed program: %s", short(s))
		}
	}
}

// P2: Of answers new memory.
func TestOfIsNew(t *testing.T) {
	_, out := typed(t, program(t, ordinary))
	eachPlain(reflect.ValueOf(&out).Elem(), func(e *api.Expr) {
		first, second := typing.Of(*e), typing.Of(*e)
		wantNew(t, first, *e, second)
	})
}

// P2, rule 3: what a refused program leaves behind can't be told; what Check answers hangs on the program alone.
func TestRefusedLeavesNothing(t *testing.T) {
	_, want := typed(t, program(t, ordinary))
	_, wrong := several(t)
	for _, s := range wrong {
		p := program(t, s)
		_, _, f := typing.Check(p)
		if _, again, g := typing.Check(p); f == ok || f != g || len(again.Classes)+len(again.Main) > 0 {
			t.Errorf("Check of %s: %v, and again %v", short(s), f, g)
		}
		if _, out := typed(t, program(t, ordinary)); !reflect.DeepEqual(out, want) {
			t.Fatalf("behind %s a typed program is another one", short(s))
		}
	}
}

// P2: calls beside each other don't touch each other, of one program neither.
func TestCallsBesideEachOther(t *testing.T) {
	p := program(t, ordinary)
	_, want := typed(t, p)
	wrong := program(t, "class A { } main { print new A(); }")
	var group sync.WaitGroup
	for range 8 {
		group.Go(func() {
			for range 5 {
				table, out, f := typing.Check(p)
				if f != ok || !reflect.DeepEqual(out, want) || len(table.Names()) != len(p.Classes) {
					t.Errorf("Check beside others: %v", f)
				}
				if _, _, f := typing.Check(wrong); f.Code != api.ErrType {
					t.Errorf("Check beside others: %v", f)
				}
			}
		})
	}
	group.Wait()
}
