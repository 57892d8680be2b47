package syntax

import (
	"strings"

	"surety/api"
)

// printer is the text that it has written, and how many tabs a line begins with.
type printer struct {
	strings.Builder
	tabs int
}

// nth: a part of a list; the zero one, where a tree that no text is read as has none.
func nth[T any](list []T, place int) T {
	if place < len(list) {
		return list[place]
	}
	var none T
	return none
}

func (w *printer) beginLine() {
	for range w.tabs {
		w.WriteByte('\t')
	}
}

// open: the end of a line behind which lines stand deeper.
func (w *printer) open() {
	w.WriteString(" {\n")
	w.tabs++
}

// close: the line's end is left to the caller, as an else may stand ahead of it.
func (w *printer) close() {
	w.tabs--
	w.beginLine()
	w.WriteByte('}')
}

func (w *printer) program(p api.Program) {
	for _, c := range p.Classes {
		w.class(c)
	}
	w.WriteString("main")
	w.block(p.Main)
	w.WriteByte('\n')
}

func (w *printer) class(c api.Class) {
	w.classHead(c)
	w.open()
	for _, f := range c.Fields {
		w.field(f)
	}
	for _, e := range c.Invs {
		w.beginLine()
		w.WriteString("invariant ")
		w.expr(e)
		w.WriteString(";\n")
	}
	for _, n := range c.Ctors {
		w.ctor(n)
	}
	for _, m := range c.Meths {
		w.method(m)
	}
	w.close()
	w.WriteByte('\n')
}

func (w *printer) classHead(c api.Class) {
	word, above := "class ", " implements "
	if c.Iface {
		word, above = "interface ", " extends "
	}
	w.WriteString(word)
	w.WriteString(c.Name)
	if c.Super != "" {
		w.WriteString(" extends ")
		w.WriteString(c.Super)
	}
	for i, name := range c.Above {
		if i > 0 {
			above = ", "
		}
		w.WriteString(above)
		w.WriteString(name)
	}
}

func (w *printer) field(f api.Field) {
	w.beginLine()
	if f.Final {
		w.WriteString("final ")
	} else {
		w.WriteString("var ")
	}
	w.named(f.Name, f.Type)
	w.WriteString(";\n")
}

func (w *printer) ctor(c api.Ctor) {
	w.beginLine()
	w.WriteString("new")
	w.params(c.Params)
	if c.HasSuper {
		w.WriteString(" super")
		w.args(c.Super)
	}
	w.block(c.Body)
	w.WriteByte('\n')
}

func (w *printer) method(m api.Method) {
	w.beginLine()
	w.WriteString("def ")
	w.WriteString(m.Name)
	w.params(m.Params)
	w.WriteString(": ")
	w.typ(m.Result)
	if m.Abstract {
		w.WriteByte(';')
	} else {
		w.block(m.Body)
	}
	w.WriteByte('\n')
}

func (w *printer) params(list []api.Param) {
	w.WriteByte('(')
	for i, p := range list {
		if i > 0 {
			w.WriteString(", ")
		}
		w.named(p.Name, p.Type)
	}
	w.WriteByte(')')
}

// named: a name and its type.
func (w *printer) named(name string, t api.Type) {
	w.WriteString(name)
	w.WriteString(": ")
	w.typ(t)
}

func (w *printer) typ(t api.Type) {
	switch t.Kind {
	case api.Int:
		w.WriteString("int")
	case api.Bool:
		w.WriteString("bool")
	case api.Ref:
		w.WriteString(t.Name)
	case api.List:
		w.typ(nth(t.Elem, 0))
		w.WriteString("[]")
	case api.Nil:
		w.WriteString("null")
	default:
		w.WriteString("void")
	}
	if t.Null {
		w.WriteByte('?')
	}
	for _, e := range t.Pred {
		w.WriteString("{v | ")
		w.expr(e)
		w.WriteByte('}')
	}
}
