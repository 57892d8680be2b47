package classes

import (
	"cmp"
	"slices"

	"surety/api"
)

// New: of a program, or its first fault.
func New(p api.Program) (*Table, api.Fault) {
	t := &Table{places: map[string]int{}}
	for _, c := range p.Classes {
		t.list = append(t.list, newClass(copyClass(c)))
	}
	if f := t.eachFor(t.crowd, t.enter, t.link, t.climb); f.Code != api.OK {
		return nil, f
	}
	t.line()
	if f := t.eachFor(t.members, t.implement); f.Code != api.OK {
		return nil, f
	}
	return t, api.Fault{}
}

// eachFor: the first fault, where each look goes through all classes ahead of the next look.
func (t *Table) eachFor(looks ...func(place int) api.Fault) api.Fault {
	return first(len(looks), func(i int) api.Fault { return first(len(t.list), looks[i]) })
}

// first: the first fault of so many parts.
func first(parts int, look func(part int) api.Fault) api.Fault {
	for i := range parts {
		if f := look(i); f.Code != api.OK {
			return f
		}
	}
	return api.Fault{}
}

// when: a fault, or none.
func when(is bool, code api.Errno, at int) api.Fault {
	if !is {
		return api.Fault{}
	}
	return api.Fault{Code: code, At: at}
}

// crowd: too many classes ahead, or too many parts.
func (t *Table) crowd(place int) api.Fault {
	c := t.list[place].decl
	most := max(len(c.Fields), len(c.Invs), len(c.Meths), len(c.Above))
	return cmp.Or(
		when(place >= api.MaxClasses || most > api.MaxMembers, api.ErrMany, c.At),
		first(len(c.Ctors), func(i int) api.Fault { return crowded(c.Ctors[i].Params, c.Ctors[i].At) }),
		first(len(c.Meths), func(i int) api.Fault { return crowded(c.Meths[i].Params, c.Meths[i].At) }),
	)
}

func crowded(params []api.Param, at int) api.Fault {
	return when(len(params) > api.MaxMembers, api.ErrMany, at)
}

// enter: from here on the class is found by its name.
func (t *Table) enter(place int) api.Fault {
	c := t.list[place].decl
	if _, there := t.places[c.Name]; there {
		return api.Fault{Code: api.ErrTwice, At: c.At}
	}
	t.places[c.Name] = place
	return api.Fault{}
}

// link: those that a class names must be there, and what it takes them for.
func (t *Table) link(place int) api.Fault {
	c := t.list[place].decl
	code := api.OK
	if c.Super != "" {
		code = t.linkCode(c.Super, false)
	}
	if code == api.OK && c.Super != "" && c.Iface {
		code = api.ErrKind // no text is read so; an interface below a class wouldn't have its methods
	}
	for _, name := range c.Above {
		code = cmp.Or(code, t.linkCode(name, true))
	}
	return when(code != api.OK, code, c.At)
}

func (t *Table) linkCode(name string, iface bool) api.Errno {
	place, there := t.places[name]
	switch {
	case !there:
		return api.ErrNoType
	case t.list[place].decl.Iface != iface:
		return api.ErrKind
	}
	return api.OK
}

// climb: what is above a class, which must not be the class itself. Others above it may still go in a circle.
func (t *Table) climb(place int) api.Fault {
	c := &t.list[place]
	passed := make([]bool, len(t.list))
	t.pass(place, passed)
	for up := range t.list {
		if passed[up] {
			c.above = append(c.above, up)
		}
	}
	return when(passed[place], api.ErrCycle, c.decl.At)
}

// pass: through all that are above a class.
func (t *Table) pass(place int, passed []bool) {
	c := t.list[place].decl
	names := c.Above
	if c.Super != "" {
		names = append([]string{c.Super}, names...)
	}
	for _, name := range names {
		if up := t.places[name]; !passed[up] {
			passed[up] = true
			t.pass(up, passed)
		}
	}
}

// line: the chain of each class, and whose methods it may have, once none is above itself.
func (t *Table) line() {
	for i := range t.list {
		c := &t.list[i]
		c.chain = []int{i}
		for super := c.decl.Super; super != ""; {
			up := t.places[super]
			c.chain = append(c.chain, up)
			super = t.list[up].decl.Super
		}
		c.asked = c.chain
		if c.decl.Iface {
			c.asked = slices.Concat(c.chain, c.above)
		}
	}
}
