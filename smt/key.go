package smt

import (
	"strconv"
	"strings"

	"surety/api"
)

// Key: a text that two trees have in common just if they are alike.
func Key(f api.Form) string {
	var b strings.Builder
	writeKey(&b, f)
	return b.String()
}

// writeKey: a tree's. Names may be anything, so their lengths stand ahead of them.
func writeKey(b *strings.Builder, f api.Form) {
	b.WriteString(strconv.Itoa(f.Kind))
	if nameCounts(f.Kind) {
		b.WriteByte(':')
		b.WriteString(strconv.Itoa(len(f.Name)))
		b.WriteByte(':')
		b.WriteString(f.Name)
	}
	b.WriteByte('(')
	for _, arg := range f.Args {
		writeKey(b, arg)
	}
	b.WriteByte(')')
}

// nameCounts: are two trees of that kind unlike, if their Names are?
func nameCounts(kind int) bool {
	switch kind {
	case api.TVar, api.TNum, api.TMul, api.TApp, api.FBool:
		return true
	}
	return false
}
