package syntax_test

import (
	"math/rand"
	"strings"

	"surety/api"
)

// drawer draws a program by the chapter's grammar: its tree, in which a place is a token's number, and its tokens.
type drawer struct {
	*rand.Rand
	room    int // how many parts may still be drawn where fewer would do
	ahead   int // in how many blocks of its own main's block lies
	tokens  []string
	depth   int
	tooDeep int // the first token of the first part that lies in 100 others or more; -1, if none does
}

func newDrawer(r *rand.Rand, room int) *drawer {
	return &drawer{Rand: r, room: room, tooDeep: -1}
}

// put: tokens go behind the others; the number of the first of them.
func (d *drawer) put(texts ...string) int {
	d.tokens = append(d.tokens, texts...)
	return len(d.tokens) - len(texts)
}

// grows: is one part more drawn? One time of so many, while there is room.
func (d *drawer) grows(times int) bool {
	if d.room <= 0 || d.tooDeep >= 0 || d.Intn(times) > 0 {
		return false
	}
	d.room--
	return true
}

func (d *drawer) pick(texts ...string) string { return texts[d.Intn(len(texts))] }

func (d *drawer) name() (string, int) {
	text := d.pick("x", "y", "v", "v", "A", "B", "_", "f", "n1", "mains", "Class", strings.Repeat("w", 40))
	return text, d.put(text)
}

func (d *drawer) nameText() string {
	text, _ := d.name()
	return text
}

// counted: a part of those that nest only so far.
func counted[T any](d *drawer, draw func() T) T {
	if d.depth >= 100 && d.tooDeep < 0 {
		d.tooDeep = len(d.tokens)
	}
	d.depth++
	part := draw()
	d.depth--
	return part
}

// severalOf: one part or more, with commas between.
func severalOf[T any](d *drawer, draw func() T) []T {
	list := []T{draw()}
	for d.grows(3) {
		d.put(",")
		list = append(list, draw())
	}
	return list
}

// listed: in brackets no part, or several.
func listed[T any](d *drawer, draw func() T) []T {
	d.put("(")
	var list []T
	if d.grows(2) {
		list = severalOf(d, draw)
	}
	d.put(")")
	return list
}

func (d *drawer) program() api.Program {
	var p api.Program
	for d.grows(2) {
		if d.Intn(3) == 0 {
			p.Classes = append(p.Classes, d.iface())
		} else {
			p.Classes = append(p.Classes, d.class())
		}
	}
	d.put("main")
	p.Main = d.blockIn(d.ahead)
	return p
}

func (d *drawer) iface() api.Class {
	d.put("interface")
	c := api.Class{Iface: true}
	c.Name, c.At = d.name()
	if d.grows(2) {
		d.put("extends")
		c.Above = severalOf(d, d.nameText)
	}
	d.put("{")
	for d.grows(2) {
		m := d.head()
		m.Abstract = true
		c.Meths = append(c.Meths, m)
		d.put(";")
	}
	d.put("}")
	return c
}

func (d *drawer) class() api.Class {
	d.put("class")
	var c api.Class
	c.Name, c.At = d.name()
	if d.grows(2) {
		d.put("extends")
		c.Super = d.nameText()
	}
	if d.grows(2) {
		d.put("implements")
		c.Above = severalOf(d, d.nameText)
	}
	d.put("{")
	for d.grows(2) {
		d.member(&c)
	}
	d.put("}")
	return c
}

func (d *drawer) member(c *api.Class) {
	switch d.Intn(4) {
	case 0:
		f := api.Field{Final: d.Intn(2) == 0}
		if f.Final {
			d.put("final")
		} else {
			d.put("var")
		}
		p := d.param()
		f.Name, f.Type, f.At = p.Name, p.Type, p.At
		d.put(";")
		c.Fields = append(c.Fields, f)
	case 1:
		d.put("invariant")
		c.Invs = append(c.Invs, d.expr())
		d.put(";")
	case 2:
		n := api.Ctor{At: d.put("new")}
		n.Params = listed(d, d.param)
		if d.grows(2) {
			d.put("super")
			n.HasSuper = true
			n.Super = listed(d, d.expr)
		}
		n.Body = d.block()
		c.Ctors = append(c.Ctors, n)
	default:
		m := d.head()
		m.Body = d.block()
		c.Meths = append(c.Meths, m)
	}
}

func (d *drawer) head() api.Method {
	d.put("def")
	var m api.Method
	m.Name, m.At = d.name()
	m.Params = listed(d, d.param)
	d.put(":")
	if d.Intn(4) == 0 {
		m.Result = api.Type{Kind: api.Void, At: d.put("void")}
	} else {
		m.Result = d.typ()
	}
	return m
}

func (d *drawer) param() api.Param {
	var p api.Param
	p.Name, p.At = d.name()
	d.put(":")
	p.Type = d.typ()
	return p
}

func (d *drawer) typ() api.Type { return counted(d, d.wholeType) }

func (d *drawer) wholeType() api.Type {
	var t api.Type
	switch d.Intn(3) {
	case 0:
		t = api.Type{Kind: api.Int, At: d.put("int")}
	case 1:
		t = api.Type{Kind: api.Bool, At: d.put("bool")}
	default:
		t = api.Type{Kind: api.Ref}
		t.Name, t.At = d.name()
		t.Null = d.null()
	}
	t.Pred = d.pred()
	for d.grows(4) {
		t = listType(t, d.put("[", "]"))
		t.Null = d.null()
		t.Pred = d.pred()
	}
	return t
}

func (d *drawer) null() bool {
	if d.Intn(3) > 0 {
		return false
	}
	d.put("?")
	return true
}

func (d *drawer) pred() []api.Expr {
	if !d.grows(4) {
		return nil
	}
	d.put("{", "v", "|")
	e := d.expr()
	d.put("}")
	return one(e)
}

func (d *drawer) block() []api.Stmt { return counted(d, d.stmts) }

// blockIn: a block in so many others.
func (d *drawer) blockIn(others int) []api.Stmt {
	if others == 0 {
		return d.block()
	}
	return counted(d, func() []api.Stmt {
		d.put("{")
		s := api.Stmt{Kind: "while", At: d.put("while", "(")}
		s.Exprs = one(counted(d, d.variable))
		d.put(")")
		s.Body = d.blockIn(others - 1)
		d.put("}")
		return []api.Stmt{s}
	})
}

func (d *drawer) stmts() []api.Stmt {
	d.put("{")
	var list []api.Stmt
	for range 1 + d.Intn(3) {
		if d.grows(1) {
			list = append(list, d.stmt())
		}
	}
	d.put("}")
	return list
}

func (d *drawer) stmt() api.Stmt {
	switch d.Intn(8) {
	case 0:
		return d.let()
	case 1:
		return d.branch()
	case 2:
		return d.loop()
	case 3:
		s := api.Stmt{Kind: "return", At: d.put("return")}
		if d.Intn(2) == 0 {
			s.Exprs = one(d.expr())
		}
		d.put(";")
		return s
	case 4:
		kind := d.pick("assert", "print")
		s := api.Stmt{Kind: kind, At: d.put(kind)}
		s.Exprs = one(d.expr())
		d.put(";")
		return s
	case 5:
		s := api.Stmt{Kind: "do", At: len(d.tokens)}
		s.Exprs = one(d.expr())
		d.put(";")
		return s
	}
	return d.assignment()
}

func (d *drawer) let() api.Stmt {
	s := api.Stmt{Kind: "let", At: d.put("let")}
	s.Name = d.nameText()
	if d.grows(2) {
		d.put(":")
		s.Type = []api.Type{d.typ()}
	}
	d.put("=")
	s.Exprs = one(d.expr())
	d.put(";")
	return s
}

func (d *drawer) inBrackets() api.Expr {
	d.put("(")
	e := d.expr()
	d.put(")")
	return e
}

func (d *drawer) branch() api.Stmt {
	s := api.Stmt{Kind: "if", At: d.put("if")}
	s.Exprs = one(d.inBrackets())
	s.Body = d.block()
	switch {
	case d.grows(3):
		d.put("else")
		s.Else = []api.Stmt{counted(d, d.branch)}
	case d.grows(2):
		d.put("else")
		s.Else = d.block()
	}
	return s
}

func (d *drawer) loop() api.Stmt {
	s := api.Stmt{Kind: "while", At: d.put("while")}
	s.Exprs = one(d.inBrackets())
	for d.grows(2) {
		d.put("invariant")
		s.Exprs = append(s.Exprs, d.expr())
	}
	s.Body = d.block()
	return s
}

func (d *drawer) assignment() api.Stmt {
	s := api.Stmt{At: len(d.tokens)}
	e := counted(d, d.target)
	switch e.Op {
	case "var":
		s.Kind, s.Name = "set", e.Name
	case "field":
		s.Kind, s.Name, s.Exprs = "field", e.Name, e.Args
	default:
		s.Kind, s.Exprs = "elem", e.Args
	}
	d.put("=")
	s.Exprs = append(s.Exprs, d.expr())
	d.put(";")
	return s
}

// target: an expression behind which = may stand.
func (d *drawer) target() api.Expr {
	switch {
	case d.grows(5):
		d.put("(")
		e := counted(d, d.target)
		d.put(")")
		return e
	case d.grows(2):
		return d.index(d.primary())
	case d.grows(1):
		return d.field(d.primary())
	}
	return d.variable()
}

func (d *drawer) expr() api.Expr { return counted(d, d.implied) }

func (d *drawer) implied() api.Expr {
	left := d.chain(1)
	if !d.grows(8) {
		return left
	}
	at := d.put("=>")
	return made("=>", at, left, d.implied())
}

// chain: operands with signs of one of the levels between.
func (d *drawer) chain(level int) api.Expr {
	if level == len(levels) {
		return d.operand()
	}
	whole := d.chain(level + 1)
	for d.grows(9) {
		sign := d.pick(levels[level]...)
		at := d.put(sign)
		whole = made(sign, at, whole, d.chain(level+1))
		if level == comparisons {
			break
		}
	}
	return whole
}

func (d *drawer) operand() api.Expr {
	if d.grows(6) {
		if d.Intn(2) == 0 {
			at := d.put("-")
			return made("neg", at, counted(d, d.operand))
		}
		at := d.put("!")
		return made("not", at, counted(d, d.operand))
	}
	whole := d.primary()
	for d.grows(5) {
		switch d.Intn(3) {
		case 0:
			whole = d.field(whole)
		case 1:
			whole = d.call(whole)
		default:
			whole = d.index(whole)
		}
	}
	return whole
}

func (d *drawer) field(object api.Expr) api.Expr {
	d.put(".")
	e := made("field", 0, object)
	e.Name, e.At = d.name()
	return e
}

func (d *drawer) call(object api.Expr) api.Expr {
	e := d.field(object)
	e.Op = "call"
	e.Args = append(e.Args, listed(d, d.expr)...)
	return e
}

func (d *drawer) index(list api.Expr) api.Expr {
	at := d.put("[")
	e := made("index", at, list, d.expr())
	d.put("]")
	return e
}

func (d *drawer) variable() api.Expr {
	e := api.Expr{Op: "var"}
	e.Name, e.At = d.name()
	return e
}

func (d *drawer) primary() api.Expr {
	if !d.grows(2) {
		return d.least()
	}
	switch d.Intn(6) {
	case 0:
		e := api.Expr{Op: "new", At: d.put("new")}
		e.Name = d.nameText()
		e.Args = listed(d, d.expr)
		return e
	case 1:
		e := api.Expr{Op: "list", At: d.put("list")}
		e.Type = []api.Type{d.typ()}
		d.put("(")
		count := d.expr()
		d.put(",")
		e.Args = []api.Expr{count, d.expr()}
		d.put(")")
		return e
	case 2:
		at := d.put("len")
		return made("len", at, d.inBrackets())
	}
	return d.inBrackets()
}

// least: an expression without parts.
func (d *drawer) least() api.Expr {
	switch d.Intn(4) {
	case 0:
		text := d.pick("0", "7", "10", "4294967296", strings.Repeat("9", 300))
		return num(text, d.put(text))
	case 1:
		op := d.pick("true", "false", "null", "this")
		return word(op, d.put(op))
	case 2:
		if d.Intn(3) == 0 {
			return word("read", d.put("read", "(", ")"))
		}
	}
	return d.variable()
}

// strewn: the tokens with blanks and remarks strewn in, and where each begins.
func (d *drawer) strewn() (string, []int) {
	var text strings.Builder
	var places []int
	for i, token := range d.tokens {
		if d.Intn(3) > 0 && i > 0 && !mustPart(d.tokens[i-1], token) {
			places = append(places, text.Len())
			text.WriteString(token)
			continue
		}
		if i > 0 {
			text.WriteString(d.pick(" ", "\t", "\n", "\r", "  ", "\r\n\t"))
		}
		if d.Intn(8) == 0 {
			text.WriteString(d.pick("// a remark\n", "//\n", "// } main { 007 @ \xff\r\n", "////\n \n"))
		}
		places = append(places, text.Len())
		text.WriteString(token)
	}
	text.WriteString(d.pick("", " ", "\n", " // the end", " //\n"))
	return text.String(), places
}

// mustPart: would two tokens without anything between be read as others?
func mustPart(a, b string) bool {
	last, first := a[len(a)-1], b[0]
	if inWord(last) || inWord(first) {
		return inWord(last) && inWord(first)
	}
	switch string([]byte{last, first}) {
	case "==", "!=", "<=", ">=", "&&", "||", "=>", "//":
		return true
	}
	return false
}

func inWord(b byte) bool {
	return b == '_' || '0' <= b && b <= '9' || 'a' <= b && b <= 'z' || 'A' <= b && b <= 'Z'
}
