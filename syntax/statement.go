package syntax

import "surety/api"

func (r *reader) block() []api.Stmt { return nested(r, r.stmts) }

func (r *reader) stmts() []api.Stmt { return curly(r, r.stmt) }

func (r *reader) stmt() api.Stmt {
	switch r.next().Text {
	case "let":
		return r.let()
	case "if":
		return r.branch()
	case "while":
		return r.loop()
	case "return":
		return r.giveBack()
	case "assert", "print":
		word := r.take()
		return api.Stmt{Kind: word.Text, Exprs: r.lastExpr(), At: word.At}
	}
	return r.wordless()
}

// lastExpr: an expression with which a statement or a member ends.
func (r *reader) lastExpr() []api.Expr {
	e := r.expr()
	r.want(";")
	return []api.Expr{e}
}

// inRound: one expression in round brackets.
func (r *reader) inRound() []api.Expr {
	r.want("(")
	e := r.expr()
	r.want(")")
	return []api.Expr{e}
}

func (r *reader) let() api.Stmt {
	s := api.Stmt{Kind: "let", At: r.take().At}
	s.Name = r.nameText()
	if r.passes(":") {
		s.Type = []api.Type{r.typ()}
	}
	r.want("=")
	s.Exprs = r.lastExpr()
	return s
}

func (r *reader) branch() api.Stmt {
	s := api.Stmt{Kind: "if", At: r.take().At}
	s.Exprs = r.inRound()
	s.Body = r.block()
	if r.passes("else") {
		s.Else = r.otherwise()
	}
	return s
}

// otherwise: what stands behind else. An if there counts as nested, as it would in a block.
func (r *reader) otherwise() []api.Stmt {
	if r.sees("if") {
		return []api.Stmt{nested(r, r.branch)}
	}
	return r.block()
}

func (r *reader) loop() api.Stmt {
	s := api.Stmt{Kind: "while", At: r.take().At}
	s.Exprs = r.inRound()
	for r.passes("invariant") {
		s.Exprs = append(s.Exprs, r.expr())
	}
	s.Body = r.block()
	return s
}

func (r *reader) giveBack() api.Stmt {
	s := api.Stmt{Kind: "return", At: r.take().At}
	if !r.passes(";") {
		s.Exprs = r.lastExpr()
	}
	return s
}

// wordless: a statement that begins with an expression. What it is shows only behind that.
func (r *reader) wordless() api.Stmt {
	at := r.next().At
	e := r.expr()
	if !r.sees("=") {
		r.want(";")
		return api.Stmt{Kind: "do", Exprs: []api.Expr{e}, At: at}
	}
	s := r.target(e)
	s.At = at
	r.want("=")
	s.Exprs = append(s.Exprs, r.lastExpr()...)
	return s
}

// target: the statement by which e becomes something, without what it becomes.
func (r *reader) target(e api.Expr) api.Stmt {
	switch e.Op {
	case "var":
		return api.Stmt{Kind: "set", Name: e.Name}
	case "field":
		return api.Stmt{Kind: "field", Name: e.Name, Exprs: e.Args}
	case "index":
		return api.Stmt{Kind: "elem", Exprs: e.Args}
	}
	panic(r.fault(api.ErrSyntax))
}
