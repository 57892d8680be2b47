package syntax_test

import (
	"cmp"
	"math/rand"
	"reflect"
	"slices"
	"sync"
	"testing"
	"unsafe"

	"surety/api"
	"surety/syntax"
)

// span: the memory of a list with its spare room.
type span struct {
	from, to uintptr
}

// spans: those of all lists in a tree.
func spans(v reflect.Value) []span {
	var list []span
	switch v.Kind() {
	case reflect.Struct:
		for i := range v.NumField() {
			list = append(list, spans(v.Field(i))...)
		}
	case reflect.Slice:
		if v.Cap() > 0 {
			from := uintptr(v.UnsafePointer())
			list = append(list, span{from, from + uintptr(v.Cap())*v.Type().Elem().Size()})
		}
		for i := range v.Len() {
			list = append(list, spans(v.Index(i))...)
		}
	}
	return list
}

// spoil: every list's parts and spare room in a tree become something else.
func spoil(v reflect.Value) {
	switch v.Kind() {
	case reflect.Struct:
		for i := range v.NumField() {
			spoil(v.Field(i))
		}
	case reflect.Slice:
		for i := range v.Len() {
			spoil(v.Index(i))
		}
		whole := v.Slice(0, v.Cap())
		for i := range whole.Len() {
			if whole.Index(i).Kind() == reflect.String {
				whole.Index(i).SetString("spoilt")
			} else {
				whole.Index(i).SetZero()
			}
		}
	}
}

// P2: no two lists of Parse's answers share memory, of one answer or of two.
func TestListsStayApart(t *testing.T) {
	r := rand.New(rand.NewSource(9))
	texts := append(slices.Clone(examples), ordinary)
	for range 100 {
		d := newDrawer(r, 100)
		d.program()
		text, _ := d.strewn()
		texts = append(texts, text)
	}
	for _, s := range texts {
		first, second := program(t, s), program(t, s)
		all := append(spans(reflect.ValueOf(first)), spans(reflect.ValueOf(second))...)
		slices.SortFunc(all, func(a, b span) int { return cmp.Compare(a.from, b.from) })
		for i := 1; i < len(all); i++ {
			if all[i].from < all[i-1].to {
				t.Fatalf("Parse(%q): two lists share memory", short(s))
			}
		}
	}
}

// P2: an answer that is changed changes no other one, earlier or later.
func TestAnswersStayApart(t *testing.T) {
	first, second := program(t, ordinary), program(t, ordinary)
	printed := syntax.Print(first)
	spoil(reflect.ValueOf(&first).Elem())
	third := program(t, ordinary)
	if !reflect.DeepEqual(second, third) || syntax.Print(second) != printed || syntax.Print(third) != printed {
		t.Errorf("Parse's answers hang on one that was changed")
	}
	if reflect.DeepEqual(first, second) {
		t.Errorf("nothing was changed")
	}
}

// P2: names in a tree are new memory: a small one doesn't hold on to the whole text.
func TestNamesAreNew(t *testing.T) {
	from := uintptr(unsafe.Pointer(unsafe.StringData(ordinary)))
	var look func(v reflect.Value)
	look = func(v reflect.Value) {
		switch v.Kind() {
		case reflect.String:
			if at := uintptr(unsafe.Pointer(unsafe.StringData(v.String()))); v.Len() > 0 && at >= from && at < from+uintptr(len(ordinary)) {
				t.Errorf("%q lies in the text", v)
			}
		case reflect.Struct:
			for i := range v.NumField() {
				look(v.Field(i))
			}
		case reflect.Slice:
			for i := range v.Len() {
				look(v.Index(i))
			}
		}
	}
	look(reflect.ValueOf(program(t, ordinary)))
}

// roomy: a tree whose lists have spare room, filled with something.
func roomy(v reflect.Value) {
	switch v.Kind() {
	case reflect.Struct:
		for i := range v.NumField() {
			roomy(v.Field(i))
		}
	case reflect.Slice:
		size := v.Len()
		list := reflect.MakeSlice(v.Type(), size+2, size+2)
		reflect.Copy(list, v)
		for i := range size {
			roomy(list.Index(i))
		}
		v.Set(list.Slice3(0, size, size+2))
	}
}

// wholeOf: a tree with its lists' spare room as parts.
func wholeOf(v reflect.Value) {
	switch v.Kind() {
	case reflect.Struct:
		for i := range v.NumField() {
			wholeOf(v.Field(i))
		}
	case reflect.Slice:
		for i := range v.Len() {
			wholeOf(v.Index(i))
		}
		v.Set(v.Slice(0, v.Cap()))
	}
}

// P2: Print, Text and TypeText leave trees and their spare room as they are, and keep nothing of them.
func TestTreesStay(t *testing.T) {
	handed, kept := program(t, ordinary), program(t, ordinary)
	roomy(reflect.ValueOf(&handed).Elem())
	roomy(reflect.ValueOf(&kept).Elem())
	printed := syntax.Print(handed)
	e, typ := handed.Main[1].Exprs[0], handed.Classes[3].Fields[0].Type
	text, typeText := syntax.Text(e), syntax.TypeText(typ)
	wholeOf(reflect.ValueOf(&handed).Elem())
	wholeOf(reflect.ValueOf(&kept).Elem())
	if !reflect.DeepEqual(handed, kept) {
		t.Errorf("a tree that was handed in is another one")
	}
	spoil(reflect.ValueOf(&handed).Elem())
	if text != "!b.f(1, null).ok || false" || typeText != "int{v | v > 0 && !(v == 7)}" || printed != syntax.Print(program(t, ordinary)) {
		t.Errorf("a text hangs on a tree that was changed: %q, %q, %q", text, typeText, printed)
	}
}

// P2: texts are new memory, even of a tree that is one name.
func TestTextsAreNew(t *testing.T) {
	long := "a_name_that_is_long_enough"
	if got := syntax.Text(name(long, 0)); got != long || unsafe.StringData(got) == unsafe.StringData(long) {
		t.Errorf("Text answers a name itself")
	}
	if got := syntax.TypeText(api.Type{Kind: api.Ref, Name: long}); got != long || unsafe.StringData(got) == unsafe.StringData(long) {
		t.Errorf("TypeText answers a name itself")
	}
}

// P2: a refused call leaves nothing behind.
func TestRefusedLeavesNothing(t *testing.T) {
	want := program(t, ordinary)
	for _, bad := range []string{"", "main { x = ; }", "class A { final x: int; main { }", "main { @", "main { print 1 ", ordinary + "x"} {
		if _, f := syntax.Parse(bad); f.Code == api.OK {
			t.Errorf("Parse(%q): no fault", short(bad))
		}
		if got := program(t, ordinary); !reflect.DeepEqual(got, want) {
			t.Errorf("behind Parse(%q) a text is read otherwise", short(bad))
		}
	}
}

// P2: calls beside each other don't touch each other.
func TestCallsBesideEachOther(t *testing.T) {
	want := program(t, ordinary)
	printed := syntax.Print(want)
	var group sync.WaitGroup
	for i := range 8 {
		group.Go(func() {
			for range 50 {
				p, f := syntax.Parse(ordinary)
				if f.Code != api.OK || syntax.Print(p) != printed {
					t.Errorf("Parse beside others: %v", f)
				}
				if _, f := syntax.Parse(ordinary[:100+i]); f.Code == api.OK {
					t.Errorf("a part of a program is one")
				}
			}
		})
	}
	group.Wait()
}
