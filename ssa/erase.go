package ssa

import (
	"strings"

	"surety/api"
)

// makes: is a statement's Name a version?
func makes(kind string) bool { return kind == "let" || kind == "set" }

func erased(s Stmt) api.Stmt {
	out := api.Stmt{Kind: strings.Clone(s.Kind), Name: strings.Clone(s.Name), Type: copies(s.Type, sameType), At: s.At}
	if makes(s.Kind) {
		out.Name = Base(s.Name)
	}
	out.Exprs = copies(s.Exprs, func(e api.Expr) api.Expr { return renamed(e, Base) })
	out.Body, out.Else = copies(s.Body, erased), copies(s.Else, erased)
	return out
}

// withVersions: a list, and behind it all versions that statements make.
func withVersions(list []string, l []Stmt) []string {
	for _, s := range l {
		if makes(s.Kind) {
			list = append(list, strings.Clone(s.Name))
		}
		if s.Kind == "while" {
			list = withOuts(list, s.Phis)
		}
		list = withVersions(withVersions(list, s.Body), s.Else)
		if s.Kind == "if" {
			list = withOuts(list, s.Phis)
		}
	}
	return list
}

func withOuts(list []string, phis []Phi) []string {
	for _, phi := range phis {
		list = append(list, strings.Clone(phi.Out))
	}
	return list
}
