package syntax

import "surety/api"

// block: from the blank ahead of { up to }.
func (w *printer) block(list []api.Stmt) {
	w.open()
	for _, s := range list {
		w.stmt(s)
	}
	w.close()
}

func (w *printer) stmt(s api.Stmt) {
	w.beginLine()
	switch s.Kind {
	case "if":
		w.branch(s)
	case "while":
		w.loop(s)
	default:
		w.simple(s)
		w.WriteByte(';')
	}
	w.WriteByte('\n')
}

func (w *printer) branch(s api.Stmt) {
	w.WriteString("if (")
	w.expr(nth(s.Exprs, 0))
	w.WriteByte(')')
	w.block(s.Body)
	switch {
	case len(s.Else) == 1 && s.Else[0].Kind == "if":
		w.WriteString(" else ")
		w.branch(s.Else[0])
	case len(s.Else) > 0:
		w.WriteString(" else")
		w.block(s.Else)
	}
}

func (w *printer) loop(s api.Stmt) {
	w.WriteString("while (")
	w.expr(nth(s.Exprs, 0))
	w.WriteByte(')')
	for i := 1; i < len(s.Exprs); i++ {
		w.WriteString(" invariant ")
		w.expr(s.Exprs[i])
	}
	w.block(s.Body)
}

// simple: a statement without a block, up to its ;.
func (w *printer) simple(s api.Stmt) {
	switch s.Kind {
	case "let":
		w.let(s)
	case "set":
		w.WriteString(s.Name)
		w.becomes(nth(s.Exprs, 0))
	case "field":
		w.part(nth(s.Exprs, 0), s.Name)
		w.becomes(nth(s.Exprs, 1))
	case "elem":
		w.index(nth(s.Exprs, 0), nth(s.Exprs, 1))
		w.becomes(nth(s.Exprs, 2))
	case "return":
		w.WriteString("return")
		if len(s.Exprs) > 0 {
			w.WriteByte(' ')
			w.expr(s.Exprs[0])
		}
	case "assert", "print":
		w.WriteString(s.Kind)
		w.WriteByte(' ')
		w.expr(nth(s.Exprs, 0))
	default:
		w.expr(nth(s.Exprs, 0))
	}
}

func (w *printer) let(s api.Stmt) {
	w.WriteString("let ")
	if len(s.Type) > 0 {
		w.named(s.Name, s.Type[0])
	} else {
		w.WriteString(s.Name)
	}
	w.becomes(nth(s.Exprs, 0))
}

func (w *printer) becomes(e api.Expr) {
	w.WriteString(" = ")
	w.expr(e)
}
