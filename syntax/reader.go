package syntax

import (
	"surety/api"
	"surety/lex"
)

// giveUp is what a reader panics with, a type of its own so that nothing else is taken for a fault of the text.
type giveUp struct {
	api.Fault
}

// reader goes through a text's tokens from the left; it never goes back.
type reader struct {
	tokens []api.Token
	end    int // the text's length
	taken  int
	depth  int // how many of the parts that may nest only so far are under way
}

// ahead: the token that so many others stand ahead of; one without a text at the text's end, if there are no more.
func (r *reader) ahead(others int) api.Token {
	if at := r.taken + others; at < len(r.tokens) {
		return r.tokens[at]
	}
	return api.Token{At: r.end}
}

func (r *reader) next() api.Token { return r.ahead(0) }

func (r *reader) take() api.Token {
	token := r.next()
	r.taken++
	return token
}

// fault: the next token is at fault.
func (r *reader) fault(code api.Errno) giveUp {
	return giveUp{api.Fault{Code: code, At: r.next().At}}
}

// sees: are these the next tokens?
func (r *reader) sees(texts ...string) bool {
	for i, text := range texts {
		if r.ahead(i).Text != text {
			return false
		}
	}
	return true
}

// passes: takes the next token just if it is this one.
func (r *reader) passes(text string) bool {
	if !r.sees(text) {
		return false
	}
	r.taken++
	return true
}

func (r *reader) want(text string) {
	if !r.passes(text) {
		panic(r.fault(api.ErrSyntax))
	}
}

func (r *reader) name() api.Token {
	if !lex.IsName(r.next().Text) {
		panic(r.fault(api.ErrSyntax))
	}
	return r.take()
}

func (r *reader) nameText() string { return r.name().Text }

// nested: a part of a sort that may nest only so far. How deep it lies is looked at ahead of what stands there.
func nested[T any](r *reader, read func() T) T {
	if r.depth >= api.MaxNest {
		panic(r.fault(api.ErrNest))
	}
	r.depth++
	part := read()
	r.depth--
	return part
}

// commas: one part or several, with commas between.
func commas[T any](r *reader, read func() T) []T {
	list := []T{read()}
	for r.passes(",") {
		list = append(list, read())
	}
	return list
}

// round: in round brackets nothing, or parts with commas between.
func round[T any](r *reader, read func() T) []T {
	r.want("(")
	if r.passes(")") {
		return nil
	}
	list := commas(r, read)
	r.want(")")
	return list
}

// curly: in curly brackets any number of parts.
func curly[T any](r *reader, read func() T) []T {
	r.want("{")
	var list []T
	for !r.passes("}") {
		list = append(list, read())
	}
	return list
}
