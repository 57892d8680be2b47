package classes_test

import (
	"cmp"
	"math/rand"
	"reflect"
	"slices"
	"sync"
	"testing"
	"unsafe"

	"surety/api"
	"surety/classes"
	"surety/syntax"
)

// span: a piece of memory.
type span struct {
	from, to uintptr
}

// spans: those of all lists in a value, with their spare room, and of all texts.
func spans(v reflect.Value) (lists, texts []span) {
	switch v.Kind() {
	case reflect.String:
		if v.Len() > 0 {
			from := uintptr(unsafe.Pointer(unsafe.StringData(v.String())))
			texts = append(texts, span{from, from + uintptr(v.Len())})
		}
	case reflect.Struct:
		for i := range v.NumField() {
			l, s := spans(v.Field(i))
			lists, texts = append(lists, l...), append(texts, s...)
		}
	case reflect.Slice:
		if v.Cap() > 0 && v.Type().Elem().Size() > 0 {
			from := uintptr(v.UnsafePointer())
			lists = append(lists, span{from, from + uintptr(v.Cap())*v.Type().Elem().Size()})
		}
		for i := range v.Len() {
			l, s := spans(v.Index(i))
			lists, texts = append(lists, l...), append(texts, s...)
		}
	}
	return lists, texts
}

// wantApart: no two of the pieces of memory have anything in common.
func wantApart(t *testing.T, what string, all []span) {
	t.Helper()
	slices.SortFunc(all, func(a, b span) int { return cmp.Compare(a.from, b.from) })
	for i := 1; i < len(all); i++ {
		if all[i].from < all[i-1].to {
			t.Fatalf("two %s share memory", what)
		}
	}
}

// spoil: every list's parts and spare room become something else.
func spoil(v reflect.Value) {
	switch v.Kind() {
	case reflect.Struct:
		for i := range v.NumField() {
			spoil(v.Field(i))
		}
	case reflect.Slice:
		for i := range v.Len() {
			spoil(v.Index(i))
		}
		whole := v.Slice(0, v.Cap())
		for i := range whole.Len() {
			switch whole.Index(i).Kind() {
			case reflect.String:
				whole.Index(i).SetString("spoilt")
			case reflect.Int:
				whole.Index(i).SetInt(77)
			default:
				whole.Index(i).SetZero()
			}
		}
	}
}

// roomy: a tree whose lists have spare room, filled with something.
func roomy(v reflect.Value) {
	switch v.Kind() {
	case reflect.Struct:
		for i := range v.NumField() {
			roomy(v.Field(i))
		}
	case reflect.Slice:
		size := v.Len()
		list := reflect.MakeSlice(v.Type(), size+2, size+2)
		reflect.Copy(list, v)
		for i := range size {
			roomy(list.Index(i))
		}
		v.Set(list.Slice3(0, size, size+2))
	}
}

// wholeOf: a tree with its lists' spare room as parts.
func wholeOf(v reflect.Value) {
	switch v.Kind() {
	case reflect.Struct:
		for i := range v.NumField() {
			wholeOf(v.Field(i))
		}
	case reflect.Slice:
		for i := range v.Len() {
			wholeOf(v.Index(i))
		}
		v.Set(v.Slice(0, v.Cap()))
	}
}

// raw: all answers just as they are given.
func raw(table *classes.Table, q questions) answers {
	a := tableAsker(table)
	out := answers{Names: a.names(), Slots: a.slots()}
	for _, name := range q.classes {
		out.Classes = append(out.Classes, a.ofClass(name, q))
	}
	return out
}

// bodies: a program with each sort of statement, expression and type in the bodies, predicates and super's arguments of its classes.
const bodies = `interface I extends K { def f(a: int, b: bool[]?{v | len(v) > 0}): A?; def g(): void; }
interface K { }
class A { var next: A?; def ok(): bool { return true; } }
class B extends A implements I, K {
	final n: int{v | v > 0 && !(v == 7)};
	new(a: int, b: A?{v | v != null}[]?{v | len(v) > 0}) super(a, -1, list int{v | v > 2}[](3, null)) { this.n = a; }
	invariant this.n > 0 => this.m != null;
	invariant list A(0, null) == null;
	var m: A?;
	def g(): void { return; }
	def f(a: int, b: bool[]?): A? {
		let x: int[][]? = list int[](3, null);
		let y = a * (2 + a) % 5 - a / 2;
		if (y < 3 || b == null) { y = 4; } else if (y >= 9) { this.m = new A(); } else { x[y][0] = -y; }
		while (y <= 10) invariant y >= 0 invariant true { y = y + 1; this.g(); }
		assert !this.n.ok; print len(x);
		return this.m.next(a, x[1])[read()].m;
	}
}
`

// P2: New leaves the program and its lists' spare room as they are.
func TestProgramStays(t *testing.T) {
	for _, s := range []string{bodies, shapes, "class A { var x: B; }", "class A extends A { new() { } }", lines(65, "class # { }")} {
		handed, kept := program(t, s+"main { print 1; }"), program(t, s+"main { print 1; }")
		roomy(reflect.ValueOf(&handed).Elem())
		roomy(reflect.ValueOf(&kept).Elem())
		classes.New(handed)
		wholeOf(reflect.ValueOf(&handed).Elem())
		wholeOf(reflect.ValueOf(&kept).Elem())
		if !reflect.DeepEqual(handed, kept) {
			t.Errorf("New made another program of %s", short(s))
		}
	}
}

// P2: nor do Base, Signature and Known change types and parameters.
func TestTypesStay(t *testing.T) {
	const text = "a: A?{v | v != null}[]?{v | len(v) > 0}, b: B, c: int{v | v > a}"
	handed, kept := params(t, text), params(t, text)
	roomy(reflect.ValueOf(&handed).Elem())
	roomy(reflect.ValueOf(&kept).Elem())
	sig := classes.Signature("f", handed)
	base := classes.Base(handed[0].Type)
	table(t, "class A { }").Known(handed[0].Type)
	wholeOf(reflect.ValueOf(&handed).Elem())
	wholeOf(reflect.ValueOf(&kept).Elem())
	if !reflect.DeepEqual(handed, kept) {
		t.Errorf("parameters that were handed in are others")
	}
	spoil(reflect.ValueOf(&handed).Elem())
	if sig != "f(A?{v | v != null}[],B,int)" || base != "A?{v | v != null}[]" {
		t.Errorf("a text hangs on a tree that was changed: %q, %q", sig, base)
	}
}

// P2: a program that is changed once New has answered changes nothing in the table, neither what was asked for ahead nor what is asked for later.
func TestProgramIsNotKept(t *testing.T) {
	for _, s := range []string{bodies, shapes} {
		p := program(t, s+"main { }")
		q := questionsOf(p)
		want := book(program(t, s+"main { }").Classes).asker().answered(q)
		asked, fresh := tableOf(t, p), tableOf(t, p)
		before := tableAsker(asked).answered(q)
		spoil(reflect.ValueOf(&p).Elem())
		for _, got := range []answers{before, tableAsker(asked).answered(q), tableAsker(fresh).answered(q)} {
			if !reflect.DeepEqual(got, want) {
				t.Errorf("a table hangs on a program that was changed:\n%s", differences(reflect.ValueOf(got), reflect.ValueOf(want), ""))
			}
		}
	}
}

// P2: texts in answers are new memory too: they don't lie in the program.
func TestTextsAreNew(t *testing.T) {
	p := program(t, bodies+"main { }")
	q := questionsOf(p)
	_, handed := spans(reflect.ValueOf(p))
	got := raw(tableOf(t, p), q)
	for i := range got.Classes {
		got.Classes[i].Name = "" // the question's own
	}
	_, answered := spans(reflect.ValueOf(got))
	places := map[uintptr]bool{}
	for _, s := range handed {
		for at := s.from; at < s.to; at++ {
			places[at] = true
		}
	}
	for _, s := range answered {
		if places[s.from] || places[s.to-1] {
			t.Fatalf("a text of an answer lies in the program")
		}
	}
	long := api.Type{Kind: api.Ref, Name: "a_name_that_is_long_enough"}
	if got := classes.Base(long); got != long.Name || unsafe.StringData(got) == unsafe.StringData(long.Name) {
		t.Errorf("Base answers the name itself")
	}
}

// P2: no two lists and no two texts of the answers of a table, of one answer or of several, share memory.
func TestAnswersStayApart(t *testing.T) {
	for _, s := range []string{bodies, shapes} {
		p := program(t, s+"main { }")
		q := questionsOf(p)
		table := tableOf(t, p)
		first, second := raw(table, q), raw(table, q)
		for _, a := range []*answers{&first, &second} {
			for i := range a.Classes {
				a.Classes[i].Name = ""
			}
		}
		lists, texts := spans(reflect.ValueOf(first))
		more, others := spans(reflect.ValueOf(second))
		wantApart(t, "lists", append(lists, more...))
		wantApart(t, "texts", append(texts, others...))
	}
}

// P2: an answer that is changed, with its spare room, changes no other one, earlier or later.
func TestChangedAnswers(t *testing.T) {
	r := rand.New(rand.NewSource(4))
	programs := []api.Program{program(t, bodies+"main { }"), program(t, shapes+"main { }")}
	for range 10 {
		programs = append(programs, reread(t, newDrawer(r).right()))
	}
	for _, p := range programs {
		q := questionsOf(p)
		table := tableOf(t, p)
		want := tableAsker(table).answered(q)
		kept, changed := raw(table, q), raw(table, q)
		spoil(reflect.ValueOf(&changed).Elem())
		got := tableAsker(table).answered(q)
		kept.Below = want.Below
		plain(reflect.ValueOf(&kept).Elem())
		if !reflect.DeepEqual(got, want) || !reflect.DeepEqual(kept, want) {
			t.Errorf("answers hang on one that was changed: %s", short(syntax.Print(p)))
		}
	}
}

// P2, rule 3: refused programs leave nothing behind.
func TestRefusedLeavesNothing(t *testing.T) {
	p := program(t, shapes+"main { }")
	q := questionsOf(p)
	table := tableOf(t, p)
	want := tableAsker(table).answered(q)
	list := slips()
	for i, s := range list {
		wantMarked(t, s.code, only(filled(list, "1", i), i))
		if again := tableOf(t, p); !reflect.DeepEqual(tableAsker(again).answered(q), want) || !reflect.DeepEqual(tableAsker(table).answered(q), want) {
			t.Errorf("behind a refused program a table is another one")
		}
	}
}

// P2, rule 4: what a call answers doesn't hang on what was asked ahead, nor in which order.
func TestOrderOfQuestions(t *testing.T) {
	p := program(t, shapes+"main { }")
	want := book(p.Classes).asker()
	for _, name := range want.names() {
		fresh := tableOf(t, p)
		if got := fresh.Vtable(name); !slices.Equal(got, want.vtable(name)) {
			t.Errorf("Vtable(%s) of a fresh table: %v", name, got)
		}
		if got := tableOf(t, p).Slots(); !slices.Equal(got, want.slots()) || !slices.Equal(fresh.Slots(), got) {
			t.Errorf("Slots: %v", got)
		}
		if got, there := tableOf(t, p).Dispatch(name, "area()"); there {
			again, _ := fresh.Dispatch(name, "area()")
			if !reflect.DeepEqual(got, again) {
				t.Errorf("Dispatch(%s) behind Vtable: %+v", name, again)
			}
		}
	}
}

// P2: calls beside each other don't touch each other, the first ones for the slots among them.
func TestCallsBesideEachOther(t *testing.T) {
	p := program(t, shapes+"main { }")
	q := questionsOf(p)
	want := book(p.Classes).asker().answered(q)
	for range 5 {
		table := tableOf(t, p)
		var group sync.WaitGroup
		for range 8 {
			group.Go(func() {
				if got := tableAsker(table).answered(q); !reflect.DeepEqual(got, want) {
					t.Errorf("answers beside others: %s", differences(reflect.ValueOf(got), reflect.ValueOf(want), ""))
				}
				if other, f := classes.New(p); f != (api.Fault{}) || len(other.Names()) != len(want.Names) {
					t.Errorf("New beside others: %v", f)
				}
			})
		}
		group.Wait()
	}
}
