package lex_test

import (
	"strings"
	"testing"

	"surety/api"
	"surety/lex"
)

// P10.3: each of the words, and none with a byte more, a byte less or another case.
func TestIsWord(t *testing.T) {
	for _, word := range keywords {
		if !lex.IsWord(word) || lex.IsName(word) {
			t.Errorf("%s: IsWord %v, IsName %v", word, lex.IsWord(word), lex.IsName(word))
		}
		near := []string{word[1:], word[:len(word)-1], strings.ToUpper(word), strings.ToUpper(word[:1]) + word[1:], word[:len(word)-1] + strings.ToUpper(word[len(word)-1:]), word + word}
		for b := range 256 {
			near = append(near, word+string([]byte{byte(b)}), string([]byte{byte(b)})+word)
		}
		for _, s := range near {
			if lex.IsWord(s) != isKeyword(s) {
				t.Errorf("IsWord(%q): %v", s, lex.IsWord(s))
			}
			wantName(t, s)
		}
	}
	for _, s := range []string{"", " ", "a", "v", "0", "for", "string", "elsee", "class interface", "do", "self", "def\x00", strings.Repeat("class", 20)} {
		if lex.IsWord(s) {
			t.Errorf("IsWord(%q)", s)
		}
	}
}

func isKeyword(s string) bool {
	for _, word := range keywords {
		if word == s {
			return true
		}
	}
	return false
}

// wantName: IsName answers what the tests' own reckoning does, and as Tokens does.
func wantName(t *testing.T, s string) {
	t.Helper()
	want := letters.FindString(s) == s && s != "" && len(s) <= 40 && !isKeyword(s)
	if lex.IsName(s) != want {
		t.Errorf("IsName(%q): %v", short(s), !want)
	}
	list, fault := lex.Tokens(s)
	if one := fault == (api.Fault{}) && len(list) == 1 && list[0].Kind == api.Word && list[0].Text == s; want != (one && !isKeyword(s)) {
		t.Errorf("IsName(%q): %v, Tokens: %v, %v", short(s), want, list, fault)
	}
}

// P10.3: names begin with a letter, have letters and digits alone, and at most MaxName bytes.
func TestIsName(t *testing.T) {
	for _, s := range []string{"a", "Z", "_", "_0", "v", "x1", "Main", "CLASS", "class1", "_main", "nulls", strings.Repeat("w", 40), "w" + strings.Repeat("9", 39)} {
		if !lex.IsName(s) {
			t.Errorf("IsName(%q) is false", s)
		}
	}
	for _, s := range []string{"", " ", "0", "1", "1a", "0_", " a", "a ", "a\n", "a b", "a.b", "a-b", "+", "//", "a//", "\x00", "a\x00", "\u00e4", "a\u00e4", "\xff", "main", "class", strings.Repeat("w", 41), strings.Repeat("w", 100000), "w" + strings.Repeat("9", 40)} {
		if lex.IsName(s) {
			t.Errorf("IsName(%q) is true", short(s))
		}
	}
	for b := range 256 {
		s := string([]byte{byte(b)})
		for _, text := range []string{s, "a" + s, s + "a", "a" + s + "a", strings.Repeat("w", 39) + s, strings.Repeat("w", 40) + s} {
			wantName(t, text)
		}
	}
}
