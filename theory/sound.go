package theory

import (
	"surety/api"
	"surety/arith"
)

// reader looks at a tree part by part, each ahead of its Args.
type reader struct {
	parts int // how many were looked at
}

// Sound: is it a formula?
func Sound(f api.Form) api.Errno {
	var r reader
	return r.formula(f, 0)
}

// IsTerm: is it a term?
func IsTerm(f api.Form) api.Errno {
	var r reader
	return r.term(f, 0)
}

// formula: a part that lies in depth others, where a formula should be.
func (r *reader) formula(f api.Form, depth int) api.Errno {
	if err := r.enter(depth); err != api.OK {
		return err
	}
	if f.Kind < api.FBool || f.Kind > api.FIff || !hasItsArgs(f) {
		return api.ErrForm
	}
	look := r.formula
	if f.Kind == api.FLe || f.Kind == api.FEq {
		look = r.term
	}
	return each(f.Args, depth+1, look)
}

// term: a part that lies in depth others, where a term should be.
func (r *reader) term(f api.Form, depth int) api.Errno {
	if err := r.enter(depth); err != api.OK {
		return err
	}
	if f.Kind < api.TVar || f.Kind > api.TApp || !hasItsArgs(f) {
		return api.ErrForm
	}
	if f.Kind == api.TNum || f.Kind == api.TMul {
		if _, err := arith.Parse(f.Name); err != api.OK {
			return err
		}
	}
	return each(f.Args, depth+1, r.term)
}

// enter: one part more, if it may be there, whatever it is.
func (r *reader) enter(depth int) api.Errno {
	if depth >= api.MaxForm {
		return api.ErrDeep
	}
	if r.parts >= api.MaxNodes {
		return api.ErrLong
	}
	r.parts++
	return api.OK
}

// each: the first error of parts that lie in depth others.
func each(parts []api.Form, depth int, look func(api.Form, int) api.Errno) api.Errno {
	for _, f := range parts {
		if err := look(f, depth); err != api.OK {
			return err
		}
	}
	return api.OK
}

// hasItsArgs: as many as its kind has?
func hasItsArgs(f api.Form) bool {
	switch f.Kind {
	case api.TVar, api.TNum, api.FBool:
		return len(f.Args) == 0
	case api.TMul, api.FNot:
		return len(f.Args) == 1
	case api.FLe, api.FEq, api.FImp, api.FIff:
		return len(f.Args) == 2
	}
	return true
}
