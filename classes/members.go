package classes

import (
	"slices"
	"strings"

	"surety/api"
)

// Field: of a class, its own or one that it has from above; and the class that declares it.
func (t *Table) Field(class, name string) (api.Field, string, bool) {
	for _, up := range t.find(class).chain {
		c := t.list[up]
		if i, there := c.fields[name]; there {
			return copyField(c.decl.Fields[i]), strings.Clone(c.decl.Name), true
		}
	}
	return api.Field{}, "", false
}

// Fields: all of a class, the topmost class's first.
func (t *Table) Fields(class string) []Owned {
	var out []Owned
	for _, up := range slices.Backward(t.find(class).chain) {
		for _, f := range t.list[up].decl.Fields {
			out = append(out, Owned{Owner: strings.Clone(t.list[up].decl.Name), Field: copyField(f)})
		}
	}
	return out
}

// Invariants: all of a class, the topmost class's first.
func (t *Table) Invariants(class string) []Inv {
	var out []Inv
	for _, up := range slices.Backward(t.find(class).chain) {
		for _, e := range t.list[up].decl.Invs {
			out = append(out, Inv{Owner: strings.Clone(t.list[up].decl.Name), Expr: copyExpr(e)})
		}
	}
	return out
}

// giver: the place of the class whose method of a signature a class has.
func (t *Table) giver(c class, sig string) (int, bool) {
	for _, up := range c.asked {
		if len(t.list[up].methods[sig]) > 0 {
			return up, true
		}
	}
	return 0, false
}

// given: the method of a signature that a giver declares.
func (t *Table) given(giver int, sig string) api.Method {
	c := t.list[giver]
	return c.decl.Meths[c.methods[sig][0]]
}

// member: all of it new memory.
func (t *Table) member(giver int, sig string) Member {
	return Member{
		Sig:    strings.Clone(sig),
		Owner:  strings.Clone(t.list[giver].decl.Name),
		Method: copyMethod(t.given(giver, sig)),
	}
}

// Dispatch: the method of a signature that a class has.
func (t *Table) Dispatch(class, sig string) (Member, bool) {
	giver, there := t.giver(t.find(class), sig)
	if !there {
		return Member{}, false
	}
	return t.member(giver, sig), true
}

// Methods: all that a class has, by their signatures.
func (t *Table) Methods(class string) []Member {
	return t.those(class, func(api.Method) bool { return true })
}

// Overloads: those of one name.
func (t *Table) Overloads(class, name string) []Member {
	return t.those(class, func(m api.Method) bool { return m.Name == name })
}

// those: of the methods that a class has the wanted ones. Only these are copied, since there may be many others.
func (t *Table) those(class string, wanted func(m api.Method) bool) []Member {
	var out []Member
	c := t.find(class)
	for _, sig := range t.signatures(c.asked) {
		giver, _ := t.giver(c, sig)
		if wanted(t.given(giver, sig)) {
			out = append(out, t.member(giver, sig))
		}
	}
	return out
}

// signatures: of all methods that some classes declare, rising, each once.
func (t *Table) signatures(places []int) []string {
	var out []string
	for _, place := range places {
		out = append(out, t.list[place].sigs...)
	}
	slices.Sort(out)
	return slices.Compact(out)
}
