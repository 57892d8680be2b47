package lex_test

import (
	"math/rand"
	"strings"
	"testing"

	"surety/api"
	"surety/lex"
)

// The chapter's examples.
func TestExamples(t *testing.T) {
	wantTokens(t, "a<=10", api.Token{Kind: 1, Text: "a", At: 0}, api.Token{Kind: 3, Text: "<=", At: 1}, api.Token{Kind: 2, Text: "10", At: 3})
	wantFault(t, "1a", api.ErrByte, 1)
	wantFault(t, "007", api.ErrDigit, 0)
}

// The limit that the chapter names.
func TestMaxDigits(t *testing.T) {
	if lex.MaxDigits != 300 {
		t.Errorf("MaxDigits: %d", lex.MaxDigits)
	}
}

// P10.1: a text as people write it.
func TestProgram(t *testing.T) {
	s := "class P { // one\r\n\tfinal n: int{v | v>0};\n}\nmain{print 6/new P(3).n;}"
	words := strings.Fields("class P { final n : int { v | v > 0 } ; } main { print 6 / new P ( 3 ) . n ; }")
	list, fault := lex.Tokens(s)
	if fault != (api.Fault{}) || strings.Join(texts(list), " ") != strings.Join(words, " ") {
		t.Errorf("Tokens(%q): %v, %v", s, list, fault)
	}
	wantReckoned(t, s)
}

// P10.1: where nothing stands but what is passed over.
func TestPassedOver(t *testing.T) {
	for _, s := range []string{"", " ", "   ", "\t", "\n", "\r", " \t\r\n ", "//", "///", "////", "// a", "// a\n", "//\n", "//\r", "//\r a", "// a\r b\r\n", "//a\n//b", " // a // b\n ", "//\x00\xff@&\n", "//\n\n//"} {
		wantTokens(t, s)
	}
}

// P10.1: a remark goes to the next byte 10, and no further; a byte 13 doesn't end it.
func TestRemarks(t *testing.T) {
	wantTokens(t, "a//b", api.Token{Kind: 1, Text: "a"})
	wantTokens(t, "a//b\nc", api.Token{Kind: 1, Text: "a"}, api.Token{Kind: 1, Text: "c", At: 5})
	wantTokens(t, "//b\r c\nd", api.Token{Kind: 1, Text: "d", At: 7})
	wantTokens(t, "//\n/", api.Token{Kind: 3, Text: "/", At: 3})
	wantTokens(t, "/", api.Token{Kind: 3, Text: "/"})
	wantTokens(t, "/ /", api.Token{Kind: 3, Text: "/"}, api.Token{Kind: 3, Text: "/", At: 2})
	wantTokens(t, "///\n1", api.Token{Kind: 2, Text: "1", At: 4})
	wantTokens(t, "=//=\n=", api.Token{Kind: 3, Text: "="}, api.Token{Kind: 3, Text: "=", At: 5})
	wantTokens(t, "1//a", api.Token{Kind: 2, Text: "1"})
	wantTokens(t, "*//*", api.Token{Kind: 3, Text: "*"})
	wantFault(t, "//\n@", api.ErrByte, 3)
	wantFault(t, "//@\n&", api.ErrByte, 4)
}

// P10.1: each sign alone, and each pair of them with and without a blank between.
func TestSigns(t *testing.T) {
	for _, first := range allSigns() {
		wantTokens(t, first, api.Token{Kind: 3, Text: first})
		wantTokens(t, "a"+first+"b", api.Token{Kind: 1, Text: "a"}, api.Token{Kind: 3, Text: first, At: 1}, api.Token{Kind: 1, Text: "b", At: 1 + len(first)})
		for _, second := range allSigns() {
			wantTokens(t, first+" "+second, api.Token{Kind: 3, Text: first}, api.Token{Kind: 3, Text: second, At: len(first) + 1})
			wantReckoned(t, first+second)
		}
	}
}

// P10.1: the longer signs are tried first; what follows is cut anew.
func TestLongerSignsFirst(t *testing.T) {
	cases := map[string]string{"==": "==", "!=": "!=", "<=": "<=", ">=": ">=", "=>": "=>", "&&": "&&", "||": "||",
		"===": "== =", "====": "== ==", "!==": "!= =", "<==": "<= =", ">==": ">= =", "=>=": "=> =", "==>": "== >", "=>>": "=> >", "=<": "= <", "=!": "= !", "=<=": "= <=", "=!=": "= !=",
		"!!=": "! !=", "<<=": "< <=", ">>=": "> >=", ">=>": ">= >", "<=>": "<= >", "=>=>": "=> =>", "<=>=": "<= >=", "|||": "|| |", "||||": "|| ||", "|=": "| =", "&&&&": "&& &&", "&&||": "&& ||",
		"+=": "+ =", "->": "- >", "--": "- -", "++": "+ +", "<>": "< >", "?.": "? .", "..": ". .", "/=": "/ =", "*/": "* /", "%%": "% %", "[]?{": "[ ] ? {", ":=": ": ="}
	for s, want := range cases {
		list, fault := lex.Tokens(s)
		if fault != (api.Fault{}) || strings.Join(texts(list), " ") != want {
			t.Errorf("Tokens(%q): %v, %v; want %s", s, list, fault, want)
		}
		wantReckoned(t, s)
	}
}

// P10.1: | is a sign, & none but with another one.
func TestHalfSigns(t *testing.T) {
	wantTokens(t, "|", api.Token{Kind: 3, Text: "|"})
	wantTokens(t, "| |", api.Token{Kind: 3, Text: "|"}, api.Token{Kind: 3, Text: "|", At: 2})
	wantFault(t, "&", api.ErrByte, 0)
	wantFault(t, "& &", api.ErrByte, 0)
	wantFault(t, "&&&", api.ErrByte, 2)
	wantFault(t, "a&b", api.ErrByte, 1)
	wantFault(t, "a &&& b", api.ErrByte, 4)
	wantFault(t, "|&", api.ErrByte, 1)
	wantFault(t, "&=", api.ErrByte, 0)
}

// P10.1, P10.2: a word has as many letters and digits as stand there, at most MaxName.
func TestWords(t *testing.T) {
	for _, s := range []string{"a", "z", "A", "Z", "_", "__", "_0", "a0", "Z9z_", "classes", "mainx", "v", strings.Repeat("w", 40), "w" + strings.Repeat("0", 39), strings.Repeat("_", 40)} {
		wantTokens(t, s, api.Token{Kind: 1, Text: s})
		wantTokens(t, " "+s+" "+s, api.Token{Kind: 1, Text: s, At: 1}, api.Token{Kind: 1, Text: s, At: 2 + len(s)})
	}
	for _, s := range keywords {
		wantTokens(t, s, api.Token{Kind: 1, Text: s})
	}
	for _, s := range []string{strings.Repeat("w", 41), "w" + strings.Repeat("0", 40), strings.Repeat("_", 41), strings.Repeat("w", 65536), "main" + strings.Repeat("x", 37)} {
		wantFault(t, s, api.ErrLong, 0)
	}
	wantFault(t, "a "+strings.Repeat("w", 41)+" @", api.ErrLong, 2)
	wantFault(t, ";"+strings.Repeat("w", 41), api.ErrLong, 1)
}

// P10.1: what is no letter, digit or token ends a word; behind a blank another one begins.
func TestWordEnds(t *testing.T) {
	wantTokens(t, "a b", api.Token{Kind: 1, Text: "a"}, api.Token{Kind: 1, Text: "b", At: 2})
	wantTokens(t, "a\tb\nc\rd", api.Token{Kind: 1, Text: "a"}, api.Token{Kind: 1, Text: "b", At: 2}, api.Token{Kind: 1, Text: "c", At: 4}, api.Token{Kind: 1, Text: "d", At: 6})
	wantTokens(t, "ifelse", api.Token{Kind: 1, Text: "ifelse"})
	wantTokens(t, "if1", api.Token{Kind: 1, Text: "if1"})
	wantTokens(t, "a.b", api.Token{Kind: 1, Text: "a"}, api.Token{Kind: 3, Text: ".", At: 1}, api.Token{Kind: 1, Text: "b", At: 2})
	wantTokens(t, strings.Repeat("w", 40)+" "+strings.Repeat("w", 40), api.Token{Kind: 1, Text: strings.Repeat("w", 40)}, api.Token{Kind: 1, Text: strings.Repeat("w", 40), At: 41})
	wantFault(t, "a\u00e4", api.ErrByte, 1)
	wantFault(t, "a$", api.ErrByte, 1)
}

// P10.1, P10.2: numbers, and what stands right behind them.
func TestNumbers(t *testing.T) {
	for _, s := range []string{"0", "1", "9", "10", "100", "1000000", strings.Repeat("9", 300), "1" + strings.Repeat("0", 299)} {
		wantTokens(t, s, api.Token{Kind: 2, Text: s})
		wantTokens(t, s+" ", api.Token{Kind: 2, Text: s})
		wantTokens(t, s+"//", api.Token{Kind: 2, Text: s})
		wantTokens(t, s+" x", api.Token{Kind: 2, Text: s}, api.Token{Kind: 1, Text: "x", At: len(s) + 1})
		wantTokens(t, s+" 0", api.Token{Kind: 2, Text: s}, api.Token{Kind: 2, Text: "0", At: len(s) + 1})
		for _, one := range allSigns() {
			wantTokens(t, s+one, api.Token{Kind: 2, Text: s}, api.Token{Kind: 3, Text: one, At: len(s)})
			wantTokens(t, one+s, api.Token{Kind: 3, Text: one}, api.Token{Kind: 2, Text: s, At: len(one)})
		}
		for _, letter := range []string{"a", "z", "A", "Z", "_", "x1", "e5", strings.Repeat("w", 41), "\xff"} {
			wantFault(t, s+letter, api.ErrByte, len(s))
			wantFault(t, ";"+s+letter+" @", api.ErrByte, len(s)+1)
		}
	}
}

// P10.2: of a number's faults the first that the chapter names counts.
func TestNumberFaults(t *testing.T) {
	for _, s := range []string{"00", "01", "09", "000", "007", "00a", "01_", "0" + strings.Repeat("1", 299), strings.Repeat("0", 300), strings.Repeat("0", 300) + "x"} {
		wantFault(t, s, api.ErrDigit, 0)
		wantFault(t, "a "+s+" @", api.ErrDigit, 2)
	}
	for _, s := range []string{strings.Repeat("9", 301), strings.Repeat("0", 301), "0" + strings.Repeat("1", 300), strings.Repeat("9", 301) + "x", strings.Repeat("0", 301) + "x", strings.Repeat("1", 65536)} {
		wantFault(t, s, api.ErrLong, 0)
	}
	wantFault(t, "1 "+strings.Repeat("9", 301)+"x", api.ErrLong, 2)
	wantFault(t, "0a", api.ErrByte, 1)
	wantFault(t, strings.Repeat("9", 300)+"x", api.ErrByte, 300)
	wantTokens(t, "0 0", api.Token{Kind: 2, Text: "0"}, api.Token{Kind: 2, Text: "0", At: 2})
	wantTokens(t, "0.0", api.Token{Kind: 2, Text: "0"}, api.Token{Kind: 3, Text: ".", At: 1}, api.Token{Kind: 2, Text: "0", At: 2})
}

// P10.2: each byte, alone, first, last and between tokens; with which of them a token begins is told here once more.
func TestEveryByte(t *testing.T) {
	const begins = "abcdefghijklmnopqrstuvwxyzABCDEFGHIJKLMNOPQRSTUVWXYZ_0123456789(){}[],;:.=<>+-*/%!|?"
	for b := range 256 {
		s := string([]byte{byte(b)})
		switch {
		case strings.Contains(begins, s):
			list, fault := lex.Tokens(s)
			if fault != (api.Fault{}) || len(list) != 1 || list[0].Text != s || list[0].At != 0 {
				t.Errorf("Tokens(%q): %v, %v", s, list, fault)
			}
		case strings.Contains(" \t\n\r", s):
			wantTokens(t, s)
		default:
			wantFault(t, s, api.ErrByte, 0)
			wantFault(t, s+"a", api.ErrByte, 0)
			wantFault(t, "a"+s, api.ErrByte, 1)
			wantFault(t, "10"+s, api.ErrByte, 2)
			wantFault(t, "a == "+s, api.ErrByte, 5)
			wantFault(t, "a "+s+" b", api.ErrByte, 2)
			wantFault(t, "a"+s+"b", api.ErrByte, 1)
			wantTokens(t, "//"+s)
		}
		for c := range 256 {
			wantReckoned(t, string([]byte{byte(b), byte(c)}))
		}
	}
}

// P10.2: of several faults the first counts, and what stands ahead of it isn't told.
func TestFirstFault(t *testing.T) {
	wantFault(t, "main { print 1 } @ 007", api.ErrByte, 17)
	wantFault(t, "main { print 007 } @", api.ErrDigit, 13)
	wantFault(t, "1a @ 007", api.ErrByte, 1)
	wantFault(t, "@ 1a", api.ErrByte, 0)
	wantFault(t, "007 1a", api.ErrDigit, 0)
	wantFault(t, "1a "+strings.Repeat("w", 41), api.ErrByte, 1)
	wantFault(t, strings.Repeat("w", 41)+" 1a", api.ErrLong, 0)
	wantFault(t, strings.Repeat("9", 301)+" "+strings.Repeat("w", 41), api.ErrLong, 0)
	wantFault(t, "& 00", api.ErrByte, 0)
	wantFault(t, "00 &", api.ErrDigit, 0)
}

// P10.2: texts of MaxSource bytes, and of one more, whatever they hold.
func TestSource(t *testing.T) {
	for _, piece := range []string{";", " ", "\n", "a ", "1 ", "==", "//\n", "/", "\t/ "} {
		full := strings.Repeat(piece, 65536/len(piece)) + strings.Repeat(" ", 65536%len(piece))
		wantReckoned(t, full)
		if _, fault := lex.Tokens(full); fault != (api.Fault{}) {
			t.Errorf("Tokens of %d bytes: %v", len(full), fault)
		}
		wantFault(t, full+" ", api.ErrLong, 65536)
		wantFault(t, full+piece, api.ErrLong, 65536)
	}
	full := strings.Repeat(" ", 65535)
	wantTokens(t, full+"x", api.Token{Kind: 1, Text: "x", At: 65535})
	wantFault(t, full+"@", api.ErrByte, 65535)
	wantFault(t, full+"xy", api.ErrLong, 65536)
	wantFault(t, "@"+full+" ", api.ErrLong, 65536)
	wantFault(t, "007"+full, api.ErrLong, 65536)
	wantFault(t, strings.Repeat("w", 65537), api.ErrLong, 65536)
	wantFault(t, strings.Repeat("w", 1000000), api.ErrLong, 65536)
}

// P10.1, P10.2: all short texts of what tokens begin with and end with.
func TestShortTexts(t *testing.T) {
	const bytes = "a_01=!<>&|/+ \n\r@\xff"
	for i := range bytes {
		for j := range bytes {
			for k := range bytes {
				for l := range bytes {
					wantReckoned(t, string([]byte{bytes[i], bytes[j], bytes[k], bytes[l]}))
				}
			}
		}
	}
}

// P10.1, P10.2: longer texts, sound ones and others.
func TestDrawnTexts(t *testing.T) {
	r := rand.New(rand.NewSource(10))
	var spaced []string
	for _, piece := range soundPieces() {
		spaced = append(spaced, piece+" ")
	}
	for range 2000 {
		wantReckoned(t, drawn(r, roughPieces(), 1+r.Intn(12)))
		s := drawn(r, spaced, r.Intn(60))
		wantReckoned(t, s)
		if _, fault := lex.Tokens(s); fault != (api.Fault{}) {
			t.Errorf("Tokens(%q): %v", s, fault)
		}
	}
}
