package syntax_test

import (
	"strings"
	"testing"

	"surety/api"
)

// wantNest: the marks ^ in a text stand where parts begin, each the first that lies in as many others as there are marks ahead of it; so the part at the last of 101 is the first that lies in 100 others.
func wantNest(t *testing.T, s string) {
	t.Helper()
	text, at := marked(s)
	if len(at) > 100 {
		wantFault(t, text, api.ErrNest, at[100])
		return
	}
	bare(t, text)
}

// inExprs: ways by which parts come to lie in an expression: what stands ahead and behind, with marks as wantNest takes them.
var inExprs = [][2]string{
	{"(^", ")"},
	{"-^", ""},
	{"!^", ""},
	{"x[^", "]"},
	{"x.f(^", ")"},
	{"x.f(^1, ", ", 2)"},
	{"new A(^", ")"},
	{"new A(^1, ", ")"},
	{"len(^", ")"},
	{"list ^int(", ", 1)"},
	{"list ^int(1, ", ")"},
	{"list ^int{v | ^", "}(1, 2)"},
	{"list ^A?[]{v | ^", "}[](1, 2)"},
	{"1 + (^", ") * 2"},
	{"1 => -^(^", ") => 2"},
}

// inExpr: a number of such ways in turn, from the first on, round the least expression.
func inExpr(number, first int) string {
	var ahead, behind string
	for i := range number {
		way := inExprs[(first+i)%len(inExprs)]
		ahead, behind = ahead+way[0], way[1]+behind
	}
	return ahead + "x" + behind
}

// oneWay: one way, a number of times.
func oneWay(number int, way [2]string) string {
	return strings.Repeat(way[0], number) + "x" + strings.Repeat(way[1], number)
}

// P11.4: expressions, types and operands behind signs in one another: those that lie in 99 others, and those in 100.
func TestNestedExprs(t *testing.T) {
	for i, way := range inExprs {
		for number := range 105 {
			wantNest(t, "main ^{ print ^"+oneWay(number, way)+"; }")
			wantNest(t, "main ^{ print ^(^"+oneWay(number, way)+"); }")
			wantNest(t, "main ^{ print ^"+inExpr(number, i)+"; }")
		}
	}
}

// P11.4: how deep an expression or a type lies where it stands.
func TestNestedByPlace(t *testing.T) {
	for _, s := range []string{
		"main ^{ let x = ^#; }",
		"main ^{ let x: int = ^#; }",
		"main ^{ let x: ^int{v | ^#} = 1; }",
		"main ^{ let x: ^A?{v | v == null}[]?{v | ^#}[] = 1; }",
		"main ^{ return ^#; }",
		"main ^{ assert ^#; }",
		"main ^{ ^#; }",
		"main ^{ x = ^#; }",
		"main ^{ ^#.y = 1; }",
		"main ^{ x.y = ^#; }",
		"main ^{ ^#[0] = 1; }",
		"main ^{ x[0] = ^#; }",
		"main ^{ ^x[^#] = 1; }",
		"main ^{ if (^#) { } }",
		"main ^{ if (x) ^{ print ^#; } }",
		"main ^{ if (x) { } else ^{ print ^#; } }",
		"main ^{ if (x) { } else ^if (^#) { } }",
		"main ^{ if (x) { } else ^if (x) ^{ print ^#; } }",
		"main ^{ if (x) { } else ^if (x) { } else ^{ print ^#; } }",
		"main ^{ if (x) { } else ^if (x) { } else ^if (^#) { } }",
		"main ^{ while (^#) { } }",
		"main ^{ while (x) invariant ^# { } }",
		"main ^{ while (x) invariant x invariant ^# { } }",
		"main ^{ while (x) ^{ print ^#; } }",
		"class A { invariant ^#; } main { }",
		"class A { final x: ^int{v | ^#}; } main { }",
		"class A { var x: ^int[]{v | ^#}[]; } main { }",
		"class A { new(x: ^int{v | ^#}) { } } main { }",
		"class A { new() super(^#) { } } main { }",
		"class A { new() super(x, ^#) { } } main { }",
		"class A { new() ^{ print ^#; } } main { }",
		"class A { def f(x: int, y: ^A{v | ^#}): int { } } main { }",
		"class A { def f(): ^A?{v | ^#} { } } main { }",
		"class A { def f(): int ^{ return ^#; } } main { }",
		"class A { def f(): void ^{ return ^#; } } main { }",
		"interface A { def f(x: ^int{v | ^#}): int; } main { }",
		"interface A { def f(): ^int{v | ^#}; } main { }",
	} {
		for number := 90; number < 105; number++ {
			wantNest(t, strings.ReplaceAll(s, "#", oneWay(number, inExprs[0])))
			wantNest(t, strings.ReplaceAll(s, "#", "(^"+oneWay(number, inExprs[1])+")"))
		}
	}
}

// P11.4: blocks in one another. What stands in the brackets ahead of a block lies as deep as that.
func TestNestedBlocks(t *testing.T) {
	for _, way := range [][2]string{
		{"if (^a) { ", "} "},
		{"while (^a) { ", "} "},
		{"while (^a) invariant b { ", "} "},
		{"if (^a) { return; } else { ", "} "},
		{"^y; if (a) { ", "} else { } z; "},
	} {
		for number := range 105 {
			wantNest(t, "main ^{ "+strings.Repeat(way[0], number)+strings.Repeat(way[1], number)+"}")
			wantNest(t, "class A { def f(): void ^{ "+strings.Repeat(way[0], number)+strings.Repeat(way[1], number)+"} } main { }")
			wantNest(t, "class A { new() ^{ "+strings.Repeat(way[0], number)+"return;"+strings.Repeat(way[1], number)+"} } main { }")
			wantNest(t, "main ^{ "+strings.Repeat(way[0], number)+"return ^x;"+strings.Repeat(way[1], number)+"}")
			wantNest(t, "main ^{ "+strings.Repeat(way[0], number)+"let x: ^int = 1;"+strings.Repeat(way[1], number)+"}")
			wantNest(t, "main ^{ "+strings.Repeat(way[0], number)+"^x = 1;"+strings.Repeat(way[1], number)+"}")
		}
	}
}

// P11.4: each if right behind else lies in the one ahead of it; the first one isn't counted.
func TestNestedElse(t *testing.T) {
	chain := func(number int) string { return "main { if (a) { } " + strings.Repeat("else if (a) { } ", number) }
	for number := range 99 {
		bare(t, chain(number)+"}")
		bare(t, chain(number)+"else { } }")
	}
	// The 99th lies in 99 others, what stands in its brackets in 100.
	for number := 99; number < 105; number++ {
		wantFault(t, chain(number)+"}", api.ErrNest, len(chain(99))-len("a) { } "))
	}
	wantNest(t, "main ^{ if (a) { } "+strings.Repeat("else ^if (a) { } ", 97)+"else ^if (a) { return; } else ^{ return; } }")
	wantNest(t, "main ^{ if (a) { } "+strings.Repeat("else ^if (a) { } ", 97)+"else ^if (a) ^{ return ^x; } }")
	wantNest(t, "main ^{ if (a) { } "+strings.Repeat("else ^if (a) { } ", 97)+"else ^if (a) { } else ^{ return ^x; } }")
	bare(t, "main { if (a) { } "+strings.Repeat("else { if (a) { } ", 98)+strings.Repeat("} ", 98)+"}")
	wantFault(t, "main { if (a) { } "+strings.Repeat("else { if (a) { } ", 99)+strings.Repeat("} ", 99)+"}", api.ErrNest, len("main { if (a) { } ")+98*len("else { if (a) { } ")+len("else { if ("))
}

// P11.4: parts beside each other, and those that the chapter doesn't name, count for nothing.
func TestNotNested(t *testing.T) {
	many := func(s string) string { return strings.Repeat(s, 500) }
	for _, s := range []string{
		"main { " + many("if (a) { } ") + "}",
		"main { " + many("x = -(1); ") + "}",
		"main { print x" + many(".f(1)[2].g") + "; }",
		"main { print 1" + many(" + -1") + "; }",
		"main { print 1" + many(" => (1)") + "; }",
		"main { print (1)" + many(" < (2) && (1)") + "; }",
		"main { print x.f(1" + many(", -1") + "); }",
		"main { let x: int" + many("[]{v | -v}") + " = 1; }",
		"main { while (a) " + many("invariant -b ") + "{ } }",
		"class A { " + many("final x: int; invariant true; new() { } def f(): void { } ") + "} main { }",
		many("interface A { def f(a: int{v | v}): int; } class B { } ") + "main { }",
	} {
		bare(t, s)
	}
}

// P11.4: ErrNest goes ahead of an ErrSyntax that lies deeper or behind, and behind one that stands ahead of it.
func TestNestOrSyntax(t *testing.T) {
	deep := "main { print " + strings.Repeat("(", 98)
	wantMarked(t, api.ErrNest, deep+"(^x = ; )")
	wantMarked(t, api.ErrNest, deep+"(^- ;")
	wantMarked(t, api.ErrNest, deep+"(^((((")
	wantMarked(t, api.ErrNest, deep+"-^x ) ; ;")
	wantMarked(t, api.ErrNest, deep+"1 + f[^x")
	wantMarked(t, api.ErrNest, deep+"list ^int{v | ;")
	wantMarked(t, api.ErrSyntax, deep+"1 ^; (x)")
	wantMarked(t, api.ErrSyntax, deep+"1 + ^; (x)")
	wantMarked(t, api.ErrSyntax, deep+"^; (x)")
	wantMarked(t, api.ErrSyntax, deep+"read(^(x))")
	wantMarked(t, api.ErrSyntax, deep+"x.^(x)")
	bare(t, deep+"x.f() + read() + new A()"+strings.Repeat(")", 98)+"; }")
}

// P11.4: where a part must stand that would lie too deep, it is ErrNest whatever stands there, even the text's end.
func TestNestAtWrongToken(t *testing.T) {
	deep := "main { print " + strings.Repeat("(", 98)
	for _, s := range []string{"(^)", "(^", "-^;", "-^+", "x[^]", "x.f(^,", "list ^(", "len(^)", "new A(^;", "(^}"} {
		wantMarked(t, api.ErrNest, deep+s)
	}
	blocks := "main { " + strings.Repeat("if (a) { ", 99)
	for _, s := range []string{"return ^}", "print ^;", "if (^)", "while (^;", "let x = ^;", "let x: ^=", "^;", "^)", "^else { }", "^"} {
		wantMarked(t, api.ErrNest, blocks+s)
	}
	wantMarked(t, api.ErrSyntax, blocks+"let ^7")
	wantMarked(t, api.ErrSyntax, blocks+"if ^{ }")
	bare(t, blocks+strings.Repeat("}", 100))
}
