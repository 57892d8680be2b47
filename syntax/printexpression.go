package syntax

import "surety/api"

func (w *printer) expr(e api.Expr) {
	switch e.Op {
	case "num", "var":
		w.WriteString(e.Name)
	case "neg":
		w.prefixed('-', e)
	case "not":
		w.prefixed('!', e)
	case "field":
		w.part(nth(e.Args, 0), e.Name)
	case "call":
		w.part(nth(e.Args, 0), e.Name)
		w.args(e.Args[min(1, len(e.Args)):])
	case "new":
		w.WriteString("new ")
		w.WriteString(e.Name)
		w.args(e.Args)
	case "list":
		w.WriteString("list ")
		w.typ(nth(e.Type, 0))
		w.args(e.Args)
	case "index":
		w.index(nth(e.Args, 0), nth(e.Args, 1))
	case "len", "read":
		w.WriteString(e.Op)
		w.args(e.Args)
	default:
		w.plain(e)
	}
}

// plain: operands with their sign between, or a word that is all of the expression.
func (w *printer) plain(e api.Expr) {
	level := signLevel(e.Op)
	if level == noLevel {
		w.WriteString(e.Op)
		return
	}
	left, right := sideLevels(level)
	w.side(nth(e.Args, 0), left)
	w.WriteByte(' ')
	w.WriteString(e.Op)
	w.WriteByte(' ')
	w.side(nth(e.Args, 1), right)
}

// side: an expression where one stands that holds together at least as tightly as level, else in brackets.
func (w *printer) side(e api.Expr, level int) {
	if exprLevel(e) >= level {
		w.expr(e)
		return
	}
	w.WriteByte('(')
	w.expr(e)
	w.WriteByte(')')
}

func (w *printer) prefixed(sign byte, e api.Expr) {
	w.WriteByte(sign)
	w.side(nth(e.Args, 0), prefixLevel)
}

func (w *printer) part(object api.Expr, name string) {
	w.side(object, primaryLevel)
	w.WriteByte('.')
	w.WriteString(name)
}

func (w *printer) index(list, place api.Expr) {
	w.side(list, primaryLevel)
	w.WriteByte('[')
	w.expr(place)
	w.WriteByte(']')
}

func (w *printer) args(list []api.Expr) {
	w.WriteByte('(')
	for i, e := range list {
		if i > 0 {
			w.WriteString(", ")
		}
		w.expr(e)
	}
	w.WriteByte(')')
}
