package theory

import (
	"strings"

	"surety/api"
)

// Text: a term or a formula, or what else it is, for people.
func Text(f api.Form) string {
	var b strings.Builder
	write(&b, f, 0)
	return b.String()
}

// write: a part that lies in depth others.
func write(b *strings.Builder, f api.Form, depth int) {
	if depth >= api.MaxForm {
		b.WriteString("..")
		return
	}
	b.WriteString(headOf(f))
	if len(f.Args) == 0 && !isList(f.Kind) {
		return
	}
	b.WriteByte('(')
	for i, arg := range f.Args {
		if i > 0 {
			b.WriteString(", ")
		}
		write(b, arg, depth+1)
	}
	b.WriteByte(')')
}

// headOf: what stands ahead of the brackets.
func headOf(f api.Form) string {
	switch f.Kind {
	case api.FLe:
		return "le"
	case api.FEq:
		return "eq"
	case api.FNot:
		return "not"
	case api.FAnd:
		return "and"
	case api.FOr:
		return "or"
	case api.FImp:
		return "imp"
	case api.FIff:
		return "iff"
	case api.TAdd:
		return "sum"
	case api.TMul:
		return f.Name + "*"
	}
	return f.Name
}

// isList: may it have any number of Args, so that brackets show that there are none?
func isList(kind int) bool {
	return kind == api.TApp || kind == api.TAdd || kind == api.FAnd || kind == api.FOr
}
