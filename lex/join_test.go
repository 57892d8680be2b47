package lex_test

import (
	"math/rand"
	"slices"
	"strings"
	"testing"

	"surety/api"
	"surety/lex"
)

// wantJoined: Join answers just this.
func wantJoined(t *testing.T, list []string, want string, places ...int) {
	t.Helper()
	joined, at := lex.Join(list...)
	if joined != want || !slices.Equal(at, places) {
		t.Errorf("Join(%q): %q, %v; want %q, %v", list, joined, at, want, places)
	}
}

// P10.3: a blank between each two, and where each begins.
func TestJoin(t *testing.T) {
	wantJoined(t, nil, "")
	wantJoined(t, []string{}, "")
	wantJoined(t, []string{""}, "", 0)
	wantJoined(t, []string{"abc"}, "abc", 0)
	wantJoined(t, []string{"", ""}, " ", 0, 1)
	wantJoined(t, []string{"", "", ""}, "  ", 0, 1, 2)
	wantJoined(t, []string{"a", ""}, "a ", 0, 2)
	wantJoined(t, []string{"", "a"}, " a", 0, 1)
	wantJoined(t, []string{"a", "<=", "10"}, "a <= 10", 0, 2, 5)
	wantJoined(t, []string{"ab", "", "c"}, "ab  c", 0, 3, 4)
	wantJoined(t, []string{" ", "a b", "//", "\n"}, "  a b // \n", 0, 2, 6, 9)
	wantJoined(t, []string{"\u00e4", "\xff", "x"}, "\u00e4 \xff x", 0, 3, 5)
	wantJoined(t, []string{strings.Repeat("x", 70000), "y"}, strings.Repeat("x", 70000)+" y", 0, 70001)
	if joined, at := lex.Join(); joined != "" || len(at) != 0 {
		t.Errorf("Join(): %q, %v", joined, at)
	}
}

// P10.3: each text stands at its place in what is joined, whatever the texts are.
func TestJoinDrawn(t *testing.T) {
	r := rand.New(rand.NewSource(3))
	for range 1000 {
		var list []string
		for range r.Intn(20) {
			list = append(list, drawn(r, roughPieces(), r.Intn(3)))
		}
		joined, at := lex.Join(list...)
		if joined != strings.Join(list, " ") || len(at) != len(list) {
			t.Fatalf("Join(%q): %q, %v", list, joined, at)
		}
		end := -1
		for i, text := range list {
			if at[i] != end+1 || joined[at[i]:at[i]+len(text)] != text {
				t.Fatalf("Join(%q): %q, %v", list, joined, at)
			}
			end = at[i] + len(text)
		}
	}
}

// P10.1, P10.3: the tokens of what is joined of tokens' texts are the same again, at the places that Join tells.
func TestJoinAndBack(t *testing.T) {
	r := rand.New(rand.NewSource(7))
	var sound int
	for range 3000 {
		list, fault := lex.Tokens(drawn(r, roughPieces(), 1+r.Intn(6)) + " " + drawn(r, allSigns(), r.Intn(6)))
		if fault != (api.Fault{}) {
			continue
		}
		sound++
		joined, at := lex.Join(texts(list)...)
		again, fault := lex.Tokens(joined)
		if fault != (api.Fault{}) || len(again) != len(list) || len(at) != len(list) {
			t.Fatalf("Tokens(%q): %v, %v; want %v", joined, again, fault, list)
		}
		for i, token := range again {
			if token != (api.Token{Kind: list[i].Kind, Text: list[i].Text, At: at[i]}) {
				t.Errorf("Tokens(%q): %v; want %v at %d", joined, token, list[i], at[i])
			}
		}
	}
	if sound < 500 {
		t.Errorf("only %d texts without a fault", sound)
	}
}
