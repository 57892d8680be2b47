package syntax_test

import (
	"math/rand"
	"slices"
	"strings"
	"testing"

	"surety/api"
	"surety/lex"
	"surety/syntax"
)

// P11.4: the chapter's example, and the least texts.
func TestLeastFaults(t *testing.T) {
	wantFault(t, "main { x = ; }", api.ErrSyntax, 11)
	wantFault(t, "", api.ErrSyntax, 0)
	wantFault(t, "  // only a remark", api.ErrSyntax, 18)
	wantFault(t, " \n\t\r", api.ErrSyntax, 4)
	wantFault(t, "main", api.ErrSyntax, 4)
	wantFault(t, "main ", api.ErrSyntax, 5)
	wantFault(t, "main {", api.ErrSyntax, 6)
	wantFault(t, "main { // }", api.ErrSyntax, 11)
	wantFault(t, "class A { }", api.ErrSyntax, 11)
	wantFault(t, "interface A { } ", api.ErrSyntax, 16)
	wantFault(t, "{ }", api.ErrSyntax, 0)
	wantFault(t, "x", api.ErrSyntax, 0)
}

// P11.4: nothing stands behind main's block.
func TestBehindMain(t *testing.T) {
	for _, s := range []string{"main { }", "x", ";", "}", "{ }", "class A { }", "7", "else { }"} {
		wantMarked(t, api.ErrSyntax, "main { } ^"+s)
	}
	bare(t, "main { } // x")
}

// P11.4: faults at the place where what was begun can't go on.
func TestMarkedFaults(t *testing.T) {
	for _, s := range []string{
		"class ^{ } main { }",
		"class A ^B { } main { }",
		"class A extends ^{ } main { }",
		"class A extends B^, C { } main { }",
		"class A implements I ^J { } main { }",
		"class A implements I, ^{ } main { }",
		"class A implements I ^extends B { } main { }",
		"interface I ^implements J { } main { }",
		"interface I extends J^. { } main { }",
		"interface I { ^final x: int; } main { }",
		"interface I { ^new() { } } main { }",
		"interface I { ^invariant true; } main { }",
		"interface I { def f(): int ^{ } } main { }",
		"interface I { def f(): void ^{ } } main { }",
		"class A { def f(): void^; } main { }",
		"class A { def f(): int^; } main { }",
		"class A { ^x: int; } main { }",
		"class A { ^; } main { }",
		"class A { final x^; } main { }",
		"class A { final x: int ^= 1; } main { }",
		"class A { final x: ^void; } main { }",
		"class A { final ^var x: int; } main { }",
		"class A { new ^{ } } main { }",
		"class A { new() super ^{ } } main { }",
		"class A { new() super(1,^) { } } main { }",
		"class A { new() ^: int { } } main { }",
		"class A { new() super() ^super() { } } main { }",
		"class A { new()^; } main { }",
		"class A { def f(^int): int { } } main { }",
		"class A { def f(a^, b: int): int { } } main { }",
		"class A { def f(a: int,^): int { } } main { }",
		"class A { def f(a: ^void): int { } } main { }",
		"class A { def f() ^{ } } main { }",
		"class A { def f^: int { } } main { }",
		"class A { def f(): void^[] { } } main { }",
		"class A { def f(): void^? { } } main { }",
		"class A { def f(): void {v ^| true} { } } main { }",
		"class A { invariant ^; } main { }",
		"class A { invariant true ^} main { }",
		"main { let ^= 1; }",
		"main { let x^; }",
		"main { let x: ^= 1; }",
		"main { let x: int ^1; }",
		"main { let x = ^; }",
		"main { if ^x { } }",
		"main { if (x) ^y; }",
		"main { if (^) { } }",
		"main { if (x) { } else ^y; }",
		"main { if (x) { } else ^while (y) { } }",
		"main { if (x) { } else { } ^else { } }",
		"main { ^else { } }",
		"main { while (x) invariant ^{ } }",
		"main { while (x) invariant y^; { } }",
		"main { while ^invariant x { } }",
		"main { return x ^}",
		"main { assert ^; }",
		"main { print ^; }",
		"main { ^; }",
		"main { ^{ } }",
		"main { x ^y; }",
		"main { x^: int; }",
		"main { x ^}",
		"main { print 1 + ^; }",
		"main { print ^+ 1; }",
		"main { print 1 ^! 2; }",
		"main { print 1 + ^* 2; }",
		"main { print (1^; }",
		"main { print (^); }",
		"main { print 1^); }",
		"main { print x.^1; }",
		"main { print x.^(1); }",
		"main { print x^(1); }",
		"main { print x[^]; }",
		"main { print x[1^, 2]; }",
		"main { print x[1^; }",
		"main { print x.f(1,^); }",
		"main { print x.f(1 ^2); }",
		"main { print new ^(1); }",
		"main { print new A^; }",
		"main { print new ^int(1); }",
		"main { print new A^?(); }",
		"main { print list ^(1, 2); }",
		"main { print list int(1^); }",
		"main { print list int(1, 2^, 3); }",
		"main { print list int(^); }",
		"main { print list ^void(1, 2); }",
		"main { print len^; }",
		"main { print len(^); }",
		"main { print len(a^, b); }",
		"main { print read^; }",
		"main { print read(^1); }",
		"main { print this ^x; }",
		"main { print x ^| y; }",
		"main { print x^? ; }",
		"main { print -^; }",
		"main { print !^; }",
		"main { print x => ^; }",
	} {
		wantMarked(t, api.ErrSyntax, s)
	}
}

// P11.1: which { behind a type begins a predicate, the next three tokens say. Where it begins none and no block stands there, it is at fault itself.
func TestPredOrBlock(t *testing.T) {
	bare(t, "class A { def f(): int { v; } def g(): int { v || x; } def h(): int { v = 1; } def i(): int { x; } def j(): int { } } main { }")
	bare(t, "class A { def f(): int{v | v} { v; } def g(): int[]{v | v} { } } main { }")
	wantMarked(t, api.ErrSyntax, "class A { def f(): int { x ^| v; } } main { }")
	wantMarked(t, api.ErrSyntax, "class A { def f(): int { v + ^| v; } } main { }")
	wantMarked(t, api.ErrSyntax, "class A { def f(): int { ^| v; } } main { }")
	wantMarked(t, api.ErrSyntax, "class A { def f(): int {v | v} ^} main { }")
	wantMarked(t, api.ErrSyntax, "class A { def f(): int {v | v^; } } main { }")
	wantMarked(t, api.ErrSyntax, "class A { def f(): int {v | ^} { } } main { }")
	wantMarked(t, api.ErrSyntax, "class A { def f(): int {v | v} {v ^| v} } main { }")
	wantMarked(t, api.ErrSyntax, "main { if (x) { v ^| v; } }")
	wantMarked(t, api.ErrSyntax, "main { v ^| v; }")
	for _, s := range []string{"{ }", "{ v }", "{ v v | v }", "{ x | x }", "{ | v }", "{ v || v }", "{ v = v }", "{ v.x | v }", "{ 1 | v }", "{ this | v }"} {
		wantMarked(t, api.ErrSyntax, "class A { final x: int ^"+s+"; } main { }")
		wantMarked(t, api.ErrSyntax, "class A { final x: A?[]? ^"+s+"; } main { }")
		wantMarked(t, api.ErrSyntax, "class A { new(x: int ^"+s+") { } } main { }")
		wantMarked(t, api.ErrSyntax, "interface A { def f(): int ^"+s+"; } main { }")
		wantMarked(t, api.ErrSyntax, "main { let x: int ^"+s+" = 1; }")
		wantMarked(t, api.ErrSyntax, "main { print list int ^"+s+"(1, 2); }")
		wantMarked(t, api.ErrSyntax, "main { let x: int{v | v} ^"+s+" = 1; }")
	}
}

// P11.1: ? stands once, behind a name or a list's brackets, ahead of the predicate.
func TestNullSigns(t *testing.T) {
	for _, s := range []string{"int^?", "bool^?", "A?^?", "int[]?^?", "int{v | v}^?", "A{v | v}^?", "int[]{v | v}^?", "A?{v | v}^?", "int[^?]", "int[^1]", "^?A", "^[]", "^[]int", "int[^[]]", "int{v | v}^{v | v}"} {
		wantMarked(t, api.ErrSyntax, "main { let x: "+s+" = 1; }")
		wantMarked(t, api.ErrSyntax, "class A { var x: "+s+"; } main { }")
	}
}

// P11.1, P11.4: words with a meaning of their own are no names.
func TestNoNames(t *testing.T) {
	words := strings.Fields("class interface extends implements final var invariant new super def void int bool let if else while return assert print true false null this list len read main")
	for _, text := range []string{
		"class ^# { } main { }", "class A extends ^# { } main { }", "class A implements I, ^# { } main { }", "interface ^# { } main { }",
		"interface I extends ^# { } main { }", "class A { final ^#: int; } main { }", "class A { def ^#(): int { } } main { }",
		"class A { def f(^#: int): int { } } main { }", "class A { new(a: int, ^#: int) { } } main { }",
		"main { let ^# = 1; }", "main { print x.^#; }", "main { print x.^#(); }", "main { print new ^#(); }",
	} {
		for _, w := range words {
			wantMarked(t, api.ErrSyntax, strings.ReplaceAll(text, "#", w))
		}
		for _, n := range []string{"7", ";", "("} {
			wantMarked(t, api.ErrSyntax, strings.ReplaceAll(text, "#", n))
		}
		s, _ := marked(strings.ReplaceAll(text, "#", "v"))
		bare(t, s)
	}
	for _, w := range words {
		if !slices.Contains([]string{"true", "false", "null", "this", "new", "list", "len", "read"}, w) {
			wantMarked(t, api.ErrSyntax, "main { print ^"+w+"; }")
		}
		if w != "int" && w != "bool" {
			wantMarked(t, api.ErrSyntax, "main { let x: ^"+w+" = 1; }")
		}
	}
}

// P11.4: layer 10's faults go ahead of all, wherever they stand.
func TestTokenFaultsFirst(t *testing.T) {
	wantFault(t, ") @", api.ErrByte, 2)
	wantFault(t, "main { } 1a", api.ErrByte, 10)
	wantFault(t, "main { print 007; }", api.ErrDigit, 13)
	wantFault(t, "main } "+strings.Repeat("w", 41), api.ErrLong, 7)
	wantFault(t, "main { print "+strings.Repeat("9", 301)+"; }", api.ErrLong, 13)
	wantFault(t, "main { print "+strings.Repeat("(", 200)+" &", api.ErrByte, 214)
	wantFault(t, "main { }"+strings.Repeat(" ", 65529), api.ErrLong, 65536)
	wantFault(t, strings.Repeat(")", 65537), api.ErrLong, 65536)
	bare(t, "main { }"+strings.Repeat(" ", 65528))
	wantFault(t, "main { "+strings.Repeat(" ", 65529), api.ErrSyntax, 65536)
}

// wantReckoned: Parse answers the fault that the recogniser tells, or none.
func wantReckoned(t *testing.T, c *chart, texts []string) {
	t.Helper()
	s, _ := lex.Join(texts...)
	tokens, fault := lex.Tokens(s)
	if fault.Code == api.OK {
		fault = c.reckon(tokens, len(s))
	}
	p, got := syntax.Parse(s)
	if got != fault {
		t.Errorf("Parse(%q): %v; want %v", short(s[max(0, fault.At-60):]), got, fault)
	}
	if got.Code != api.OK && (len(p.Classes) > 0 || len(p.Main) > 0) {
		t.Errorf("Parse(%q): a tree beside a fault", short(s))
	}
}

// P11.4: every token left out, doubled, put in the next one's place, or another one put in its place or ahead of it.
func TestEveryTokenWrong(t *testing.T) {
	g := newRecogniser()
	for _, s := range append(slices.Clone(examples), ordinary) {
		wrongTokens(t, g, s, strings.Fields("x v 7 ( ) { } [ ] , ; : . = + - ! | ? == => && class new def final invariant super void int if else let return this main"))
	}
	r := rand.New(rand.NewSource(11))
	for range 15 {
		d := newDrawer(r, 40)
		d.program()
		s, _ := lex.Join(d.tokens...)
		wrongTokens(t, g, s, []string{"x", ";", "}"})
	}
}

func wrongTokens(t *testing.T, g *recogniser, s string, others []string) {
	t.Helper()
	tokens, fault := lex.Tokens(s)
	if fault.Code != api.OK {
		t.Fatalf("Tokens(%q): %v", s, fault)
	}
	var texts []string
	for _, token := range tokens {
		texts = append(texts, token.Text)
	}
	all := g.begin()
	if fault := all.reckon(tokens, len(s)); fault.Code != api.OK {
		t.Fatalf("the recogniser refuses %q: %v", s, fault)
	}
	for i, text := range texts {
		ahead, behind := texts[:i:i], texts[i+1:]
		known := max(0, i-2) // a { hangs on two tokens more
		wantReckoned(t, all.upTo(known), ahead)
		wantReckoned(t, all.upTo(known), slices.Concat(ahead, behind))
		wantReckoned(t, all.upTo(known), slices.Concat(ahead, []string{text, text}, behind))
		if len(behind) > 0 {
			wantReckoned(t, all.upTo(known), slices.Concat(ahead, []string{text, text}, behind[1:]))
			wantReckoned(t, all.upTo(known), slices.Concat(ahead, []string{behind[0], text}, behind[1:]))
		}
		for j := i % 2; j < len(others); j += 2 {
			wantReckoned(t, all.upTo(known), slices.Concat(ahead, others[j:j+1], behind))
			wantReckoned(t, all.upTo(known), slices.Concat(ahead, []string{others[j], text}, behind))
		}
	}
}

// P11.4: tokens drawn without any sense.
func TestDrawnTokens(t *testing.T) {
	g := newRecogniser()
	r := rand.New(rand.NewSource(4))
	pieces := strings.Fields("main { } ( ) [ ] , ; : . = + - ! | ? == x v 7 class A def int new if else while let print true read")
	for range 3000 {
		texts := strings.Fields("main {")
		for range r.Intn(12) {
			texts = append(texts, pieces[r.Intn(len(pieces))])
		}
		wantReckoned(t, g.begin(), texts)
		wantReckoned(t, g.begin(), texts[2:])
	}
}
