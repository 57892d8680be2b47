package classes_test

import (
	"reflect"
	"slices"
	"testing"

	"surety/api"
	"surety/classes"
	"surety/syntax"
)

// asker is what a table's calls are: the table's own, or the test's reckoning.
type asker struct {
	names      func() []string
	class      func(name string) (api.Class, bool)
	above      func(name string) []string
	below      func(a, b string) bool
	field      func(class, name string) (api.Field, string, bool)
	fields     func(class string) []classes.Owned
	invariants func(class string) []classes.Inv
	dispatch   func(class, sig string) (classes.Member, bool)
	methods    func(class string) []classes.Member
	overloads  func(class, name string) []classes.Member
	slots      func() []string
	vtable     func(class string) []int
}

func tableAsker(t *classes.Table) asker {
	return asker{t.Names, t.Class, t.Above, t.Below, t.Field, t.Fields, t.Invariants, t.Dispatch, t.Methods, t.Overloads, t.Slots, t.Vtable}
}

func (b book) asker() asker {
	names := func() []string {
		var out []string
		for _, c := range b {
			out = append(out, c.Name)
		}
		return out
	}
	below := func(low, high string) bool {
		_, isLow := b.find(low)
		_, isHigh := b.find(high)
		return isLow && isHigh && (low == high || b.isAbove(high, low))
	}
	return asker{names, b.find, b.above, below, b.field, b.fields, b.invariants, b.dispatch, b.methods, b.overloads, b.slots, b.vtable}
}

// The answers, one struct a call, so that they may be held against each other and gone through.
type (
	answers struct {
		Names, Slots []string
		Below        [][]bool
		Classes      []ofClass
	}
	ofClass struct {
		Name       string
		Class      api.Class
		There      bool
		Above      []string
		Fields     []classes.Owned
		Invariants []classes.Inv
		Methods    []classes.Member
		Vtable     []int
		Field      []fieldAnswer
		Dispatch   []dispatchAnswer
		Overloads  [][]classes.Member
	}
	fieldAnswer struct {
		Field api.Field
		Owner string
		There bool
	}
	dispatchAnswer struct {
		Member classes.Member
		There  bool
	}
)

// questions are the names that a table is asked for.
type questions struct {
	classes, fields, sigs, methods []string
}

// questionsOf: all names that a program has, and some that it mostly doesn't have.
func questionsOf(p api.Program) questions {
	q := questions{
		classes: []string{"", "nobody", "int", "null", "A?", "A[]"},
		fields:  []string{"", "nothing"},
		sigs:    []string{"", "f", "f(", "f()", "f(int", "f(int )", "g(nobody)", "()"},
		methods: []string{"", "f", "f()", "nothing"},
	}
	for _, c := range p.Classes {
		q.classes = append(q.classes, c.Name)
		for _, f := range c.Fields {
			q.fields = append(q.fields, f.Name)
		}
		for _, m := range c.Meths {
			q.sigs = append(q.sigs, signature(m))
			q.methods = append(q.methods, m.Name)
		}
	}
	for _, list := range []*[]string{&q.classes, &q.fields, &q.sigs, &q.methods} {
		slices.Sort(*list)
		*list = slices.Compact(*list)
	}
	return q
}

// answered: all that is asked for, with nil for each empty list, since either may be answered.
func (a asker) answered(q questions) answers {
	out := answers{Names: a.names(), Slots: a.slots()}
	for _, name := range q.classes {
		var below []bool
		for _, high := range q.classes {
			below = append(below, a.below(name, high))
		}
		out.Below = append(out.Below, below)
		out.Classes = append(out.Classes, a.ofClass(name, q))
	}
	plain(reflect.ValueOf(&out).Elem())
	return out
}

func (a asker) ofClass(name string, q questions) ofClass {
	c := ofClass{Name: name, Above: a.above(name), Fields: a.fields(name), Invariants: a.invariants(name), Methods: a.methods(name), Vtable: a.vtable(name)}
	c.Class, c.There = a.class(name)
	for _, field := range q.fields {
		var answer fieldAnswer
		answer.Field, answer.Owner, answer.There = a.field(name, field)
		c.Field = append(c.Field, answer)
	}
	for _, sig := range q.sigs {
		var answer dispatchAnswer
		answer.Member, answer.There = a.dispatch(name, sig)
		c.Dispatch = append(c.Dispatch, answer)
	}
	for _, method := range q.methods {
		c.Overloads = append(c.Overloads, a.overloads(name, method))
	}
	return c
}

// plain: each empty list becomes nil, and no list keeps room that another one may have too.
func plain(v reflect.Value) {
	switch v.Kind() {
	case reflect.Struct:
		for i := range v.NumField() {
			plain(v.Field(i))
		}
	case reflect.Slice:
		if v.Len() == 0 {
			v.SetZero()
			return
		}
		list := reflect.MakeSlice(v.Type(), v.Len(), v.Len())
		reflect.Copy(list, v)
		v.Set(list)
		for i := range v.Len() {
			plain(v.Index(i))
		}
	}
}

// wantReckoned: New answers a table of which all answers are those that the test reckons; what follows of them does.
func wantReckoned(t *testing.T, p api.Program) {
	t.Helper()
	table := tableOf(t, p)
	q := questionsOf(p)
	got, want := tableAsker(table).answered(q), book(p.Classes).asker().answered(q)
	if !reflect.DeepEqual(got, want) {
		t.Errorf("the table of %s:\n%s", short(syntax.Print(p)), differences(reflect.ValueOf(got), reflect.ValueOf(want), ""))
	}
	wantFollowing(t, table)
	wantKnown(t, table, p)
}

// wantFollowing: P12.6 and P12.7, of the table's own answers alone.
func wantFollowing(t *testing.T, table *classes.Table) {
	t.Helper()
	names, slots := table.Names(), table.Slots()
	for _, name := range names {
		vtable := table.Vtable(name)
		if len(vtable) != len(slots) {
			t.Fatalf("%d slots, but %d in the Vtable of %s", len(slots), len(vtable), name)
		}
		for i, sig := range slots {
			m, there := table.Dispatch(name, sig)
			if there != (vtable[i] >= 0) || there && names[vtable[i]] != m.Owner {
				t.Errorf("Dispatch(%s, %s): of %q; the Vtable tells %d", name, sig, m.Owner, vtable[i])
			}
		}
		for _, high := range names {
			if !table.Below(name, high) {
				continue
			}
			for _, m := range table.Methods(high) {
				mine, there := table.Dispatch(name, m.Sig)
				if !there || base(mine.Method.Result) != base(m.Method.Result) {
					t.Errorf("%s is below %s, but has %s so: %+v", name, high, m.Sig, mine)
				}
			}
		}
	}
}

// everyType: calls f with each type in a tree.
func everyType(v reflect.Value, f func(api.Type)) {
	switch v.Kind() {
	case reflect.Struct:
		if typ, ok := v.Interface().(api.Type); ok {
			f(typ)
		}
		for i := range v.NumField() {
			everyType(v.Field(i), f)
		}
	case reflect.Slice:
		for i := range v.Len() {
			everyType(v.Index(i), f)
		}
	}
}

// wantKnown: Known of all types in the program, those in bodies too, where New doesn't look.
func wantKnown(t *testing.T, table *classes.Table, p api.Program) {
	t.Helper()
	everyType(reflect.ValueOf(p), func(typ api.Type) {
		want, _ := book(p.Classes).unknown(typ)
		if got := table.Known(typ); got != want {
			t.Errorf("Known(%s): %v; want %v", syntax.TypeText(typ), got, want)
		}
	})
}

// differences: where two values aren't alike, for a message.
func differences(a, b reflect.Value, path string) string {
	if reflect.DeepEqual(a.Interface(), b.Interface()) {
		return ""
	}
	switch a.Kind() {
	case reflect.Struct:
		out := ""
		for i := range a.NumField() {
			out += differences(a.Field(i), b.Field(i), path+"."+a.Type().Field(i).Name)
		}
		return out
	case reflect.Slice:
		if a.Len() == b.Len() {
			out := ""
			for i := range a.Len() {
				out += differences(a.Index(i), b.Index(i), path+"["+number(i)+"]")
			}
			return out
		}
	}
	return path + ": " + text(a) + "; want " + text(b) + "\n"
}
