package lex

import (
	"strings"

	"surety/api"
)

// oneByteSigns: & isn't among them, so that it stands for nothing alone.
const oneByteSigns = "(){}[],;:.=<>+-*/%!|?"

// passOver: where the next token begins, from at on, or the text's end.
func passOver(s string, at int) int {
	for at < len(s) {
		switch {
		case isBlank(s[at]):
			at++
		case strings.HasPrefix(s[at:], "//"):
			at = lineEnd(s, at)
		default:
			return at
		}
	}
	return at
}

// lineEnd: the place of the next byte 10, or the text's end; a byte 13 doesn't end a remark.
func lineEnd(s string, at int) int {
	size := strings.IndexByte(s[at:], '\n')
	if size < 0 {
		return len(s)
	}
	return at + size
}

// scan: the kind and the end of the token that begins at at, or its fault.
func scan(s string, at int) (kind, end int, fault api.Fault) {
	switch {
	case isLetter(s[at]):
		end = wordEnd(s, at)
		return api.Word, end, wordFault(at, end)
	case isDigit(s[at]):
		end = numberEnd(s, at)
		return api.Number, end, numberFault(s, at, end)
	}
	size := signSize(s[at:])
	if size == 0 {
		return 0, 0, api.Fault{Code: api.ErrByte, At: at}
	}
	return api.Sign, at + size, api.Fault{}
}

func wordFault(at, end int) api.Fault {
	if end-at > api.MaxName {
		return api.Fault{Code: api.ErrLong, At: at}
	}
	return api.Fault{}
}

// numberFault: where a number has several faults, the order of the cases says which counts.
func numberFault(s string, at, end int) api.Fault {
	switch {
	case end-at > MaxDigits:
		return api.Fault{Code: api.ErrLong, At: at}
	case s[at] == '0' && end-at > 1:
		return api.Fault{Code: api.ErrDigit, At: at}
	case end < len(s) && isLetter(s[end]):
		return api.Fault{Code: api.ErrByte, At: end}
	}
	return api.Fault{}
}

// wordEnd: behind the letters and digits that stand at at.
func wordEnd(s string, at int) int {
	for at < len(s) && (isLetter(s[at]) || isDigit(s[at])) {
		at++
	}
	return at
}

// numberEnd: behind the digits that stand at at.
func numberEnd(s string, at int) int {
	for at < len(s) && isDigit(s[at]) {
		at++
	}
	return at
}

// signSize: how many bytes the sign has with which rest begins; 0, if none does. Longer ones go ahead of what they begin with.
func signSize(rest string) int {
	if len(rest) >= 2 && isLongSign(rest[:2]) {
		return 2
	}
	if strings.IndexByte(oneByteSigns, rest[0]) >= 0 {
		return 1
	}
	return 0
}

func isLongSign(s string) bool {
	switch s {
	case "==", "!=", "<=", ">=", "&&", "||", "=>":
		return true
	}
	return false
}

func isLetter(b byte) bool { return 'a' <= b && b <= 'z' || 'A' <= b && b <= 'Z' || b == '_' }

func isDigit(b byte) bool { return '0' <= b && b <= '9' }

func isBlank(b byte) bool { return b == ' ' || b == '\t' || b == '\n' || b == '\r' }
