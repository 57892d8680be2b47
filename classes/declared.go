package classes

import (
	"cmp"
	"slices"

	"surety/api"
)

// members: what a class itself declares.
func (t *Table) members(place int) api.Fault {
	c := t.list[place]
	return cmp.Or(
		first(len(c.decl.Fields), func(i int) api.Fault { return t.field(c, i) }),
		first(len(c.decl.Ctors), func(i int) api.Fault { return t.ctor(c, i) }),
		first(len(c.decl.Meths), func(i int) api.Fault { return t.method(c, i) }),
	)
}

func (t *Table) field(c class, i int) api.Fault {
	f := c.decl.Fields[i]
	twice := c.fields[f.Name] < i
	for _, up := range c.chain[1:] {
		_, there := t.list[up].fields[f.Name]
		twice = twice || there
	}
	return cmp.Or(when(twice, api.ErrTwice, f.At), t.Known(f.Type))
}

func (t *Table) ctor(c class, i int) api.Fault {
	made := c.decl.Ctors[i]
	return cmp.Or(when(i > 0, api.ErrTwice, made.At), t.params(made.Params))
}

func (t *Table) method(c class, i int) api.Fault {
	m, sig := c.decl.Meths[i], c.sigs[i]
	base := Base(m.Result)
	other := slices.ContainsFunc(c.above, func(up int) bool { return t.list[up].otherResult(sig, base) })
	return cmp.Or(
		t.params(m.Params),
		t.Known(m.Result),
		when(c.methods[sig][0] < i, api.ErrTwice, m.At),
		when(other, api.ErrOverride, m.At),
	)
}

func (t *Table) params(list []api.Param) api.Fault {
	return first(len(list), func(i int) api.Fault {
		p := list[i]
		twice := slices.ContainsFunc(list[:i], func(ahead api.Param) bool { return ahead.Name == p.Name })
		return cmp.Or(when(twice, api.ErrTwice, p.At), t.Known(p.Type))
	})
}

// implement: a class has what the interfaces above it ask for.
func (t *Table) implement(place int) api.Fault {
	c := t.list[place]
	for _, up := range c.above {
		if !t.list[up].decl.Iface {
			continue
		}
		for i, sig := range t.list[up].sigs {
			owner, there := t.giver(c, sig)
			if !there {
				return api.Fault{Code: api.ErrImplements, At: c.decl.At}
			}
			if t.list[owner].otherResult(sig, Base(t.list[up].decl.Meths[i].Result)) {
				return api.Fault{Code: api.ErrOverride, At: c.decl.At}
			}
		}
	}
	return api.Fault{}
}
