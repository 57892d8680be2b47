package lex_test

import (
	"math/rand"
	"regexp"
	"slices"
	"strings"
	"testing"

	"surety/api"
	"surety/lex"
)

// The tests hold the package against regular expressions, and know of it only what its exported calls tell.

var (
	between = regexp.MustCompile(`^(?:[ \t\n\r]|//[^\n]*(?:\n|$))*`)
	letters = regexp.MustCompile(`^[a-zA-Z_][a-zA-Z_0-9]*`)
	digits  = regexp.MustCompile(`^[0-9]+`)
	sign    = regexp.MustCompile(`^(?:==|!=|<=|>=|&&|\|\||=>|[(){}\[\],;:.=<>+*/%!|?-])`)
)

// longSigns, shortSigns: as the chapter lists them.
var (
	longSigns  = strings.Fields("== != <= >= && || =>")
	shortSigns = strings.Fields("( ) { } [ ] , ; : . = < > + - * / % ! | ?")
)

// keywords: as the chapter lists them.
var keywords = strings.Fields("class interface extends implements final var invariant new super def void int bool let if else while return assert print true false null this list len read main")

func allSigns() []string { return slices.Concat(longSigns, shortSigns) }

// reckon: what Tokens should answer.
func reckon(s string) ([]api.Token, api.Fault) {
	if len(s) > 65536 {
		return nil, api.Fault{Code: api.ErrLong, At: 65536}
	}
	var list []api.Token
	at := len(between.FindString(s))
	for at < len(s) {
		token, fault := reckonOne(s, at)
		if fault != (api.Fault{}) {
			return nil, fault
		}
		list = append(list, token)
		at += len(token.Text)
		at += len(between.FindString(s[at:]))
	}
	return list, api.Fault{}
}

func reckonOne(s string, at int) (api.Token, api.Fault) {
	rest := s[at:]
	if text := letters.FindString(rest); text != "" {
		if len(text) > 40 {
			return api.Token{}, api.Fault{Code: api.ErrLong, At: at}
		}
		return api.Token{Kind: 1, Text: text, At: at}, api.Fault{}
	}
	if text := digits.FindString(rest); text != "" {
		if len(text) > 300 {
			return api.Token{}, api.Fault{Code: api.ErrLong, At: at}
		}
		if strings.HasPrefix(text, "0") && text != "0" {
			return api.Token{}, api.Fault{Code: api.ErrDigit, At: at}
		}
		if letters.MatchString(rest[len(text):]) {
			return api.Token{}, api.Fault{Code: api.ErrByte, At: at + len(text)}
		}
		return api.Token{Kind: 2, Text: text, At: at}, api.Fault{}
	}
	if text := sign.FindString(rest); text != "" {
		return api.Token{Kind: 3, Text: text, At: at}, api.Fault{}
	}
	return api.Token{}, api.Fault{Code: api.ErrByte, At: at}
}

// short: a text for a message.
func short(s string) string {
	if len(s) > 60 {
		return s[:30] + ".." + s[len(s)-28:]
	}
	return s
}

// wantTokens: Tokens answers just these.
func wantTokens(t *testing.T, s string, want ...api.Token) {
	t.Helper()
	list, fault := lex.Tokens(s)
	if fault != (api.Fault{}) || !slices.Equal(list, want) {
		t.Errorf("Tokens(%q): %v, %v; want %v", short(s), list, fault, want)
	}
}

// wantFault: Tokens answers this fault, and no tokens beside it.
func wantFault(t *testing.T, s string, code api.Errno, at int) {
	t.Helper()
	list, fault := lex.Tokens(s)
	if fault != (api.Fault{Code: code, At: at}) || len(list) != 0 {
		t.Errorf("Tokens(%q): %d tokens, %v; want error %d at %d", short(s), len(list), fault, code, at)
	}
}

// wantReckoned: Tokens answers what the tests' own reckoning does.
func wantReckoned(t *testing.T, s string) {
	t.Helper()
	list, fault := reckon(s)
	if fault != (api.Fault{}) {
		wantFault(t, s, fault.Code, fault.At)
		return
	}
	wantTokens(t, s, list...)
	wantLaidOut(t, s)
}

// wantLaidOut: a token's text stands at its place, and between tokens stands nothing but what is passed over.
func wantLaidOut(t *testing.T, s string) {
	t.Helper()
	list, _ := lex.Tokens(s)
	end := 0
	for _, token := range append(list, api.Token{At: len(s)}) {
		if token.At < end || token.At+len(token.Text) > len(s) || s[token.At:token.At+len(token.Text)] != token.Text {
			t.Fatalf("Tokens(%q): %v doesn't stand there", short(s), token)
		}
		gap := s[end:token.At]
		if between.FindString(gap) != gap {
			t.Errorf("Tokens(%q): %q is passed over", short(s), gap)
		}
		end = token.At + len(token.Text)
	}
}

func texts(list []api.Token) []string {
	var out []string
	for _, token := range list {
		out = append(out, token.Text)
	}
	return out
}

// drawn: a text of some pieces, one behind the other.
func drawn(r *rand.Rand, pieces []string, count int) string {
	var out strings.Builder
	for range count {
		out.WriteString(pieces[r.Intn(len(pieces))])
	}
	return out.String()
}

// soundPieces: of these, with a blank behind each, no text has a fault.
func soundPieces() []string {
	list := slices.Concat(allSigns(), keywords)
	return append(list, "a", "_", "Z9", "x_1", "v", strings.Repeat("n", 40), "0", "1", "907", strings.Repeat("9", 300), "// it's all\rhere: 007 \xff\n", "//\n", "\t", "\n", "\r\n")
}

// roughPieces: what tokens are made of, and what none begins with.
func roughPieces() []string {
	return append(soundPieces(), " ", "  ", "/", "//", "///", "00", "01", "1a", "&", "&&&", "=", "|", "@", "\"", "\x00", "\x80", "\u00e4", strings.Repeat("n", 41), strings.Repeat("7", 301))
}
