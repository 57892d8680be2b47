package syntax_test

import (
	"slices"
	"strings"
)

// layout writes tokens as the chapter says that Print does, going by the tokens alone.
type layout struct {
	strings.Builder
	open []bool // of each { that isn't closed yet: does it begin a predicate?
}

// laidOut: a program's tokens in the form of Print.
func laidOut(tokens []string) string {
	var l layout
	for i, token := range tokens {
		begins := i == 0 || strings.HasSuffix(l.String(), "\n")
		if token == "}" {
			l.shut(begins)
		} else if begins {
			l.WriteString(strings.Repeat("\t", len(l.open)))
		} else if blankBetween(tokens[:i], tokens[i:]) {
			l.WriteByte(' ')
		}
		l.WriteString(token)
		l.behind(tokens, i)
	}
	return l.String()
}

// shut: what stands ahead of a }.
func (l *layout) shut(begins bool) {
	pred := l.open[len(l.open)-1]
	l.open = l.open[:len(l.open)-1]
	if begins {
		l.WriteString(strings.Repeat("\t", len(l.open)))
	} else if !pred {
		l.WriteString("not at a line's beginning")
	}
	if pred {
		l.open = append(l.open, true)
	}
}

// behind: the line's end, if it ends behind the token at i.
func (l *layout) behind(tokens []string, i int) {
	switch tokens[i] {
	case ";":
		l.WriteByte('\n')
	case "{":
		pred := beginsPred(tokens[i:])
		l.open = append(l.open, pred)
		if !pred {
			l.WriteByte('\n')
		}
	case "}":
		if len(l.open) > 0 && l.open[len(l.open)-1] {
			l.open = l.open[:len(l.open)-1]
		} else if i+1 == len(tokens) || tokens[i+1] != "else" {
			l.WriteByte('\n')
		}
	}
}

func beginsPred(tokens []string) bool {
	return len(tokens) > 2 && slices.Equal(tokens[:3], []string{"{", "v", "|"})
}

// blankBetween: within a line, is a blank between the last token ahead and the first behind?
func blankBetween(ahead, behind []string) bool {
	a, b := ahead[len(ahead)-1], behind[0]
	switch b {
	case "{":
		return !beginsPred(behind)
	case "extends", "implements", "invariant", "super", "else", "=", "|":
		return true
	case ";", ":", ",", ")", "]", "?", ".", "[":
		return false
	}
	switch a {
	case "class", "interface", "extends", "implements", "final", "var", "invariant", "def",
		"let", "if", "else", "while", "return", "assert", "print", "list", ",", ":", "=", "|":
		return true
	case "new":
		return b != "("
	}
	if len(ahead) > 1 && isBetween(ahead[len(ahead)-2], a) {
		return true
	}
	return isBetween(a, b)
}

// isBetween: is b a sign between operands, if a stands ahead of it?
func isBetween(a, b string) bool {
	if !slices.ContainsFunc(levels, func(signs []string) bool { return slices.Contains(signs, b) }) {
		return false
	}
	switch a {
	case "print", "assert", "return", "invariant":
		return false
	}
	return inWord(a[len(a)-1]) || a == ")" || a == "]"
}
