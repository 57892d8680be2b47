package syntax

import (
	"slices"

	"surety/api"
	"surety/lex"
)

func (r *reader) expr() api.Expr { return nested(r, r.implied) }

// implied: a whole expression. All of it is one part however many => stand in it, so they are gone through by a loop.
func (r *reader) implied() api.Expr {
	sides := []api.Expr{r.operands(orLevel)}
	var signs []api.Token
	for r.sees("=>") {
		signs = append(signs, r.take())
		sides = append(sides, r.operands(orLevel))
	}
	whole := sides[len(signs)]
	for i, sign := range slices.Backward(signs) {
		whole = between(sides[i], sign, whole)
	}
	return whole
}

func between(left api.Expr, sign api.Token, right api.Expr) api.Expr {
	return api.Expr{Op: sign.Text, Args: []api.Expr{left, right}, At: sign.At}
}

// operands: with signs of this level and of tighter ones between. Of comparisons only one is taken: a second one is at fault wherever it stands.
func (r *reader) operands(level int) api.Expr {
	if level == prefixLevel {
		return r.operand()
	}
	whole := r.operands(level + 1)
	for signLevel(r.next().Text) == level {
		sign := r.take()
		whole = between(whole, sign, r.operands(level+1))
		if level == compareLevel {
			break
		}
	}
	return whole
}

func (r *reader) operand() api.Expr {
	switch {
	case r.sees("-"):
		return r.prefixed("neg")
	case r.sees("!"):
		return r.prefixed("not")
	}
	whole := r.primary()
	for {
		switch {
		case r.passes("."):
			whole = r.part(whole)
		case r.sees("["):
			whole = r.index(whole)
		default:
			return whole
		}
	}
}

func (r *reader) prefixed(op string) api.Expr {
	at := r.take().At
	return api.Expr{Op: op, Args: []api.Expr{nested(r, r.operand)}, At: at}
}

// part: a field or a call of an object, from the name on.
func (r *reader) part(object api.Expr) api.Expr {
	name := r.name()
	e := api.Expr{Op: "field", Name: name.Text, Args: []api.Expr{object}, At: name.At}
	if r.sees("(") {
		e.Op = "call"
		e.Args = append(e.Args, round(r, r.expr)...)
	}
	return e
}

func (r *reader) index(list api.Expr) api.Expr {
	at := r.take().At
	place := r.expr()
	r.want("]")
	return api.Expr{Op: "index", Args: []api.Expr{list, place}, At: at}
}

func (r *reader) primary() api.Expr {
	token := r.next()
	if token.Kind == api.Number {
		return r.alone("num")
	}
	if lex.IsName(token.Text) {
		return r.alone("var")
	}
	switch token.Text {
	case "true", "false", "null", "this":
		r.take()
		return api.Expr{Op: token.Text, At: token.At}
	case "new":
		return r.object()
	case "list":
		return r.list()
	case "len":
		r.take()
		return api.Expr{Op: "len", Args: r.inRound(), At: token.At}
	case "read":
		r.take()
		r.want("(")
		r.want(")")
		return api.Expr{Op: "read", At: token.At}
	case "(":
		return r.inRound()[0]
	}
	panic(r.fault(api.ErrSyntax))
}

// alone: the next token, which is all of the expression.
func (r *reader) alone(op string) api.Expr {
	token := r.take()
	return api.Expr{Op: op, Name: token.Text, At: token.At}
}

func (r *reader) object() api.Expr {
	e := api.Expr{Op: "new", At: r.take().At}
	e.Name = r.nameText()
	e.Args = round(r, r.expr)
	return e
}

func (r *reader) list() api.Expr {
	e := api.Expr{Op: "list", At: r.take().At}
	e.Type = []api.Type{r.typ()}
	r.want("(")
	e.Args = append(e.Args, r.expr())
	r.want(",")
	e.Args = append(e.Args, r.expr())
	r.want(")")
	return e
}
