package syntax

import "surety/api"

// The levels of binding, the weakest first. Reader and printer both go by them, so that what is written is read as it was.
const (
	noLevel = iota
	implyLevel
	orLevel
	andLevel
	compareLevel
	sumLevel
	productLevel
	prefixLevel
	primaryLevel
)

// signLevel: of a sign between operands; noLevel of all else.
func signLevel(sign string) int {
	switch sign {
	case "=>":
		return implyLevel
	case "||":
		return orLevel
	case "&&":
		return andLevel
	case "==", "!=", "<", "<=", ">", ">=":
		return compareLevel
	case "+", "-":
		return sumLevel
	case "*", "/", "%":
		return productLevel
	}
	return noLevel
}

// exprLevel: how tightly an expression holds together.
func exprLevel(e api.Expr) int {
	if level := signLevel(e.Op); level != noLevel {
		return level
	}
	if e.Op == "neg" || e.Op == "not" {
		return prefixLevel
	}
	return primaryLevel
}

// sideLevels: how tightly what stands on the left and on the right of a sign must hold together to need no brackets there.
func sideLevels(level int) (left, right int) {
	switch level {
	case implyLevel:
		return level + 1, level
	case compareLevel:
		return level + 1, level + 1
	}
	return level, level + 1
}
