package classes_test

import (
	"slices"

	"surety/api"
)

// spoilt: p with a change by which it may, or may not, have a fault. What is changed is drawn anew, so that p stays.
func (d *drawer) spoilt(p api.Program) api.Program {
	list := slices.Clone(p.Classes)
	if len(list) == 0 {
		return p
	}
	c := &list[d.Intn(len(list))]
	switch d.Intn(12) {
	case 0:
		c.Name = oneOf(d, list...).Name
	case 1:
		if c.Iface {
			c.Above = append(slices.Clone(c.Above), d.anyName(list))
		} else {
			c.Super = d.anyName(list)
		}
	case 2:
		c.Above = append([]string{d.anyName(list)}, c.Above...)
	case 3:
		d.spoilFields(c)
	case 4:
		d.spoilCtors(c)
	case 5, 6:
		d.spoilMethods(c)
	case 7:
		if len(c.Meths) > 0 {
			c.Meths = c.Meths[1:]
		}
	case 8:
		d.crowd(c)
	case 9, 10:
		if len(c.Meths) > 0 {
			c.Meths = slices.Clone(c.Meths)
			c.Meths[d.Intn(len(c.Meths))].Result = d.typ(1)
		}
	case 11:
		list = d.heir(list, *c)
	}
	return api.Program{Classes: list, Main: p.Main}
}

// heir: with one class more, which has a method of super's, and an interface above it that may ask for that with another result.
func (d *drawer) heir(list []api.Class, super api.Class) []api.Class {
	if super.Iface || len(super.Meths) == 0 {
		return list
	}
	m := oneOf(d, super.Meths...)
	m.Body, m.Abstract, m.Result = nil, true, oneOf(d, m.Result, d.typ(1))
	for _, c := range []api.Class{
		{Name: "Heir", Super: super.Name, Above: []string{"Other"}},
		{Name: "Other", Iface: true, Meths: []api.Method{m}},
	} {
		list = slices.Insert(list, d.Intn(len(list)+1), c)
	}
	return list
}

func (d *drawer) anyName(list []api.Class) string {
	if d.once(4) {
		return "Nobody"
	}
	return oneOf(d, list...).Name
}

// anyType: mostly one whose class there isn't.
func (d *drawer) anyType() api.Type {
	t := api.Type{Kind: api.Ref, Name: oneOf(d, "Nobody", "Noone", "A", "I")}
	for d.once(3) {
		t = api.Type{Kind: api.List, Elem: []api.Type{d.alike(t)}}
	}
	return d.alike(t)
}

func (d *drawer) spoilFields(c *api.Class) {
	if c.Iface {
		return
	}
	f := api.Field{Name: oneOf(d, "x", "y", "z", "u"), Type: api.Type{Kind: api.Int}}
	if d.once(2) {
		f.Type = d.anyType()
	}
	c.Fields = slices.Insert(slices.Clone(c.Fields), d.Intn(len(c.Fields)+1), f)
}

func (d *drawer) spoilCtors(c *api.Class) {
	if c.Iface {
		return
	}
	c.Ctors = append(slices.Clone(c.Ctors), api.Ctor{Params: d.spoiltParams(d.named(d.types()))})
}

func (d *drawer) spoiltParams(list []api.Param) []api.Param {
	out := slices.Clone(list)
	for range d.Intn(3) {
		p := api.Param{Name: oneOf(d, "a", "b", "c", "k"), Type: oneOf(d, d.typ(1), d.anyType())}
		out = slices.Insert(out, d.Intn(len(out)+1), p)
	}
	return out
}

// spoilMethods: one more, or another one for one that is there.
func (d *drawer) spoilMethods(c *api.Class) {
	m := api.Method{Name: "f", Params: d.spoiltParams(d.named(d.types())), Result: d.result(), Abstract: c.Iface}
	all := d.made.slots()
	if len(all) > 0 && d.once(2) {
		sig := oneOf(d, all...)
		m = d.method(sig[:slices.Index([]byte(sig), '(')], sig, c.Iface)
		if d.once(2) {
			m.Result = oneOf(d, d.result(), d.anyType())
		}
	}
	c.Meths = slices.Insert(slices.Clone(c.Meths), d.Intn(len(c.Meths)+1), m)
}

// crowd: some part of which there may be 64, or 65.
func (d *drawer) crowd(c *api.Class) {
	count := oneOf(d, 64, 65)
	var many []api.Param
	for i := range count {
		many = append(many, api.Param{Name: number(i), Type: api.Type{Kind: api.Int}})
	}
	switch {
	case d.once(3):
		c.Meths = append(slices.Clone(c.Meths), api.Method{Name: "many", Params: many, Abstract: c.Iface})
	case d.once(2):
		for len(c.Meths) < count {
			c.Meths = append(slices.Clone(c.Meths), api.Method{Name: number(len(c.Meths)), Abstract: c.Iface})
		}
	case c.Iface:
	case d.once(2):
		c.Ctors = []api.Ctor{{Params: many}}
	default:
		for len(c.Fields) < count {
			c.Fields = append(slices.Clone(c.Fields), api.Field{Name: number(len(c.Fields)), Type: api.Type{Kind: api.Bool}})
		}
	}
}
