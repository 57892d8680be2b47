package lex_test

import (
	"slices"
	"strings"
	"testing"
	"unsafe"

	"surety/api"
	"surety/lex"
)

// P2: Join leaves its texts and their spare room as they are, and keeps none of them.
func TestJoinLeavesTexts(t *testing.T) {
	whole := []string{"a", "b", "c", "spare", "room"}
	handed := whole[:3]
	joined, at := lex.Join(handed...)
	if !slices.Equal(whole, []string{"a", "b", "c", "spare", "room"}) {
		t.Errorf("Join changed what it was handed: %q", whole)
	}
	handed[0] = "changed"
	if joined != "a b c" || !slices.Equal(at, []int{0, 2, 4}) {
		t.Errorf("Join's answer hangs on its texts: %q, %v", joined, at)
	}
}

// P2: an answer that is changed changes no other one, earlier or later.
func TestAnswersStayApart(t *testing.T) {
	const s = "a <= 10 // end"
	want := []api.Token{{Kind: 1, Text: "a", At: 0}, {Kind: 3, Text: "<=", At: 2}, {Kind: 2, Text: "10", At: 5}}
	first, _ := lex.Tokens(s)
	second, _ := lex.Tokens(s)
	for i := range first[:cap(first)] {
		first[:cap(first)][i] = api.Token{Kind: 9, Text: "changed", At: -1}
	}
	third, _ := lex.Tokens(s)
	if !slices.Equal(second, want) || !slices.Equal(third, want) {
		t.Errorf("Tokens: %v, then %v", second, third)
	}
	_, at := lex.Join("a", "b")
	_, other := lex.Join("a", "b")
	at[0], at[1] = -1, -1
	_, later := lex.Join("a", "b")
	if !slices.Equal(other, []int{0, 2}) || !slices.Equal(later, []int{0, 2}) {
		t.Errorf("Join: %v, then %v", other, later)
	}
}

// P2: a refused call leaves nothing behind.
func TestRefusedLeavesNothing(t *testing.T) {
	for _, bad := range []string{"a @", "007", "1a", "x &"} {
		lex.Tokens(bad)
		wantTokens(t, "b", api.Token{Kind: 1, Text: "b"})
	}
}

// P2: what is answered is new memory, texts too: a small one doesn't hold on to the whole source.
func TestTextsAreNew(t *testing.T) {
	s := strings.Repeat("name <= 10 ", 100)
	list, _ := lex.Tokens(s)
	for _, token := range list {
		if unsafe.StringData(token.Text) == unsafe.StringData(s[token.At:]) {
			t.Fatalf("Tokens: %v lies in the source", token)
		}
	}
	if joined, _ := lex.Join(s); joined != s || unsafe.StringData(joined) == unsafe.StringData(s) {
		t.Errorf("Join of one text answers it itself")
	}
}
