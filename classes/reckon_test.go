package classes_test

import (
	"slices"
	"strings"

	"surety/api"
	"surety/classes"
	"surety/syntax"
)

// book is a program's classes. What it answers is reckoned by the chapter's words, slowly.
type book []api.Class

func (b book) find(name string) (api.Class, bool) {
	for _, c := range b {
		if c.Name == name {
			return c, true
		}
	}
	return api.Class{}, false
}

// base: P12.1.
func base(t api.Type) string {
	if t.Kind == api.List {
		return syntax.TypeText(elem(t)) + "[]"
	}
	if t.Kind == api.Ref {
		return t.Name
	}
	return map[int]string{api.Void: "void", api.Int: "int", api.Bool: "bool", api.Nil: "null"}[t.Kind]
}

// elem: of a list; a raw tree may have none, which is read as the zero type.
func elem(t api.Type) api.Type { return append(slices.Clone(t.Elem), api.Type{})[0] }

func signature(m api.Method) string {
	text := m.Name + "("
	for i, p := range m.Params {
		if i > 0 {
			text += ","
		}
		text += base(p.Type)
	}
	return text + ")"
}

// rightAbove: the names behind extends and implements.
func rightAbove(c api.Class) []string {
	if c.Super == "" {
		return slices.Clone(c.Above)
	}
	return append([]string{c.Super}, c.Above...)
}

// above: each name that is come to is gone on from once, so that it ends where classes go in a circle, too.
func (b book) above(name string) []string {
	c, _ := b.find(name)
	waiting := rightAbove(c)
	var reached []string
	for len(waiting) > 0 {
		next := waiting[0]
		waiting = waiting[1:]
		if !slices.Contains(reached, next) {
			reached = append(reached, next)
			up, _ := b.find(next)
			waiting = append(waiting, rightAbove(up)...)
		}
	}
	var out []string
	for _, c := range b {
		if slices.Contains(reached, c.Name) {
			out = append(out, c.Name)
		}
	}
	return out
}

func (b book) isAbove(high, low string) bool { return slices.Contains(b.above(low), high) }

// chain: none of a class that there isn't.
func (b book) chain(name string) []api.Class {
	var out []api.Class
	for c, there := b.find(name); there; c, there = b.find(c.Super) {
		out = append(out, c)
		if c.Super == "" {
			break
		}
	}
	return out
}

func (b book) field(class, name string) (api.Field, string, bool) {
	for _, c := range b.chain(class) {
		for _, f := range c.Fields {
			if f.Name == name {
				return f, c.Name, true
			}
		}
	}
	return api.Field{}, "", false
}

func (b book) fields(class string) []classes.Owned {
	var out []classes.Owned
	chain := b.chain(class)
	for i := len(chain) - 1; i >= 0; i-- {
		for _, f := range chain[i].Fields {
			out = append(out, classes.Owned{Owner: chain[i].Name, Field: f})
		}
	}
	return out
}

func (b book) invariants(class string) []classes.Inv {
	var out []classes.Inv
	chain := b.chain(class)
	for i := len(chain) - 1; i >= 0; i-- {
		for _, e := range chain[i].Invs {
			out = append(out, classes.Inv{Owner: chain[i].Name, Expr: e})
		}
	}
	return out
}

// own: the method of that signature that the class itself declares.
func own(c api.Class, sig string) (classes.Member, bool) {
	for _, m := range c.Meths {
		if signature(m) == sig {
			return classes.Member{Sig: sig, Owner: c.Name, Method: m}, true
		}
	}
	return classes.Member{}, false
}

func (b book) dispatch(class, sig string) (classes.Member, bool) {
	c, _ := b.find(class)
	asked := b.chain(class)
	if c.Iface {
		asked = []api.Class{c}
		for _, name := range b.above(class) {
			up, _ := b.find(name)
			if up.Iface {
				asked = append(asked, up)
			}
		}
	}
	for _, up := range asked {
		if m, there := own(up, sig); there {
			return m, true
		}
	}
	return classes.Member{}, false
}

func (b book) slots() []string {
	var out []string
	for _, c := range b {
		for _, m := range c.Meths {
			if sig := signature(m); !slices.Contains(out, sig) {
				out = append(out, sig)
			}
		}
	}
	slices.SortFunc(out, strings.Compare)
	return out
}

func (b book) methods(class string) []classes.Member {
	var out []classes.Member
	for _, sig := range b.slots() {
		if m, there := b.dispatch(class, sig); there {
			out = append(out, m)
		}
	}
	return out
}

func (b book) overloads(class, name string) []classes.Member {
	var out []classes.Member
	for _, m := range b.methods(class) {
		if m.Method.Name == name {
			out = append(out, m)
		}
	}
	return out
}

func (b book) vtable(class string) []int {
	var out []int
	for _, sig := range b.slots() {
		m, there := b.dispatch(class, sig)
		place := -1
		if there {
			place = slices.IndexFunc(b, func(c api.Class) bool { return c.Name == m.Owner })
		}
		out = append(out, place)
	}
	return out
}
