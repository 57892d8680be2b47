package ssa_test

import (
	"cmp"
	"math/rand"
	"reflect"
	"slices"
	"strings"
	"sync"
	"testing"
	"unsafe"

	"surety/ssa"
)

// span: a piece of memory.
type span struct {
	from, to uintptr
}

// spans: those of all lists in a value, with their spare room, and of all texts.
func spans(v reflect.Value) (lists, texts []span) {
	switch v.Kind() {
	case reflect.String:
		if v.Len() > 0 {
			from := uintptr(unsafe.Pointer(unsafe.StringData(v.String())))
			texts = append(texts, span{from, from + uintptr(v.Len())})
		}
	case reflect.Struct:
		for i := range v.NumField() {
			l, s := spans(v.Field(i))
			lists, texts = append(lists, l...), append(texts, s...)
		}
	case reflect.Slice:
		if v.Cap() > 0 {
			from := uintptr(v.UnsafePointer())
			lists = append(lists, span{from, from + uintptr(v.Cap())*v.Type().Elem().Size()})
		}
		for i := range v.Len() {
			l, s := spans(v.Index(i))
			lists, texts = append(lists, l...), append(texts, s...)
		}
	}
	return lists, texts
}

// wantApart: no two of the pieces of memory have anything in common.
func wantApart(t *testing.T, what string, all []span) {
	t.Helper()
	slices.SortFunc(all, func(a, b span) int { return cmp.Compare(a.from, b.from) })
	for i := 1; i < len(all); i++ {
		if all[i].from < all[i-1].to {
			t.Fatalf("two %s share memory", what)
		}
	}
}

// wantNew: an answer's texts and lists have nothing in common with one another, nor with those of others.
func wantNew(t *testing.T, answer any, others ...any) {
	t.Helper()
	lists, texts := spans(reflect.ValueOf(answer))
	wantApart(t, "lists of an answer", slices.Clone(lists))
	wantApart(t, "texts of an answer", slices.Clone(texts))
	for _, other := range others {
		l, s := spans(reflect.ValueOf(other))
		wantForeign(t, "lists", lists, l)
		wantForeign(t, "texts", texts, s)
	}
}

func wantForeign(t *testing.T, what string, mine, others []span) {
	t.Helper()
	places := map[uintptr]bool{}
	for _, s := range others {
		for at := s.from; at < s.to; at++ {
			places[at] = true
		}
	}
	for _, s := range mine {
		for at := s.from; at < s.to; at++ {
			if places[at] {
				t.Fatalf("an answer shares %s with something else", what)
			}
		}
	}
}

// spoil: every list's parts and spare room become something else.
func spoil(v reflect.Value) {
	switch v.Kind() {
	case reflect.Struct:
		for i := range v.NumField() {
			spoil(v.Field(i))
		}
	case reflect.Slice:
		for i := range v.Len() {
			spoil(v.Index(i))
		}
		whole := v.Slice(0, v.Cap())
		for i := range whole.Len() {
			if whole.Index(i).Kind() == reflect.String {
				whole.Index(i).SetString("spoilt")
			} else {
				whole.Index(i).SetZero()
			}
		}
	}
}

// roomy: a tree whose lists have spare room.
func roomy(v reflect.Value) {
	switch v.Kind() {
	case reflect.Struct:
		for i := range v.NumField() {
			roomy(v.Field(i))
		}
	case reflect.Slice:
		size := v.Len()
		list := reflect.MakeSlice(v.Type(), size+2, size+2)
		reflect.Copy(list, v)
		for i := range size {
			roomy(list.Index(i))
		}
		v.Set(list.Slice3(0, size, size+2))
	}
}

// wholeOf: a tree with its lists' spare room as parts.
func wholeOf(v reflect.Value) {
	switch v.Kind() {
	case reflect.Struct:
		for i := range v.NumField() {
			wholeOf(v.Field(i))
		}
	case reflect.Slice:
		for i := range v.Len() {
			wholeOf(v.Index(i))
		}
		v.Set(v.Slice(0, v.Cap()))
	}
}

func roomyCopy[T any](tree T) T {
	tree = copied(tree)
	roomy(reflect.ValueOf(&tree).Elem())
	return tree
}

func wholeCopy[T any](tree T) T {
	wholeOf(reflect.ValueOf(&tree).Elem())
	return copied(tree)
}

// several: bodies of drawn programs, and of written ones.
func several(t *testing.T) []body {
	t.Helper()
	r := rand.New(rand.NewSource(3))
	all := []body{of(t, "let x = 1; if (p) { x = 2; } while (q) { x = x + l[x]; let y: int{v | v > i} = 7; y = x; } print x;"), {}}
	for range 15 {
		all = append(all, bodies(t, drawn(r))...)
	}
	return all
}

// versionedBodies: what comes of them, and statements that are put together by hand.
func versionedBodies(t *testing.T) [][]ssa.Stmt {
	t.Helper()
	var all [][]ssa.Stmt
	for _, b := range several(t) {
		all = append(all, b.converted())
	}
	w := &wild{Rand: rand.New(rand.NewSource(7))}
	for i := range 200 {
		w.room = i % 40
		all = append(all, few(w, 4, w.versioned))
	}
	return all
}

// P2: what is handed in is left as it is, its lists' spare room, too.
func TestArgumentsStay(t *testing.T) {
	for _, b := range several(t) {
		params, list := roomyCopy(b.params), roomyCopy(b.list)
		keptParams, kept := roomyCopy(b.params), roomyCopy(b.list)
		ssa.Convert(params, list)
		if !reflect.DeepEqual(wholeCopy(params), wholeCopy(keptParams)) || !reflect.DeepEqual(wholeCopy(list), wholeCopy(kept)) {
			t.Fatalf("Convert made another body, or other parameters")
		}
	}
	for _, l := range versionedBodies(t) {
		handed, kept := roomyCopy(l), roomyCopy(l)
		ssa.Erase(handed)
		ssa.Versions(handed)
		if !reflect.DeepEqual(wholeCopy(handed), wholeCopy(kept)) {
			t.Fatalf("Erase or Versions made other statements")
		}
	}
}

// P2: what is answered is new memory: none of it is an argument's, nor another answer's, nor twice in one.
func TestAnswersAreNew(t *testing.T) {
	for _, b := range several(t) {
		got, again := b.converted(), b.converted()
		wantNew(t, got, b.list, b.params, again)
		wantNew(t, ssa.Convert(nil, b.list), b.list)
	}
	for _, l := range versionedBodies(t) {
		wantNew(t, ssa.Erase(l), l, ssa.Erase(l))
		wantNew(t, ssa.Versions(l), l, ssa.Versions(l))
	}
	for _, text := range []string{"", "x", "x#0", "#", "long#12#3"} {
		name := strings.Clone(text)
		wantNew(t, []string{ssa.Version(name), ssa.Base(name)}, []string{name, ssa.Version(name), ssa.Base(name)})
	}
}

// P2: what is changed later, an argument or an answer, changes no answer.
func TestChanged(t *testing.T) {
	for _, b := range several(t) {
		params, list := roomyCopy(b.params), roomyCopy(b.list)
		got, changed := ssa.Convert(params, list), ssa.Convert(params, list)
		want := copied(got)
		spoil(reflect.ValueOf(&params).Elem())
		spoil(reflect.ValueOf(&list).Elem())
		spoil(reflect.ValueOf(&changed).Elem())
		if !alike(got, want) {
			t.Fatalf("an answer of Convert hangs on what was changed")
		}
		if !alike(b.converted(), want) {
			t.Fatalf("Convert answers another thing than ahead")
		}
	}
	for _, l := range versionedBodies(t) {
		handed := roomyCopy(l)
		erased, versions := ssa.Erase(handed), ssa.Versions(handed)
		wantErased, want := copied(erased), copied(versions)
		spoil(reflect.ValueOf(&handed).Elem())
		if !alike(erased, wantErased) || !slices.Equal(versions, want) {
			t.Fatalf("an answer of Erase or Versions hangs on what was changed")
		}
	}
}

// P2: what is answered hangs on the arguments alone: not on the order in which maps are gone through, nor on calls ahead or beside.
func TestCallsBesideEachOther(t *testing.T) {
	all := several(t)
	var want [][]ssa.Stmt
	for _, b := range all {
		want = append(want, b.converted())
	}
	var group sync.WaitGroup
	for range 8 {
		group.Go(func() {
			for i, b := range all {
				got := b.converted()
				if !alike(got, want[i]) || !alike(ssa.Erase(want[i]), b.list) || len(ssa.Versions(got)) != len(ssa.Versions(want[i])) {
					t.Errorf("calls beside others answer another thing")
				}
			}
		})
	}
	group.Wait()
}
