package syntax_test

import (
	"reflect"
	"slices"
	"strings"
	"testing"

	"surety/api"
	"surety/lex"
	"surety/syntax"
)

// P11.5: the chapter's example, and the least program.
func TestPrintExample(t *testing.T) {
	wantPrint(t, "main { print 1 + 2 * 3; }", "main {\n\tprint 1 + 2 * 3;\n}\n")
	wantPrint(t, "main{}", "main {\n}\n")
}

// P11.5: a program that has each sort of part; each class's members by their sorts.
func TestPrintOrdinary(t *testing.T) {
	wantPrint(t, ordinary, `interface I {
}
interface J extends I, K {
	def f(a: int, b: bool[]?): A?;
	def g(): void;
}
class A {
}
class B extends A implements I, J {
	final n: int{v | v > 0 && !(v == 7)};
	var m: A?;
	invariant this.n > 0 => this.m != null;
	new(a: int, b: A?{v | v != null}[]?{v | len(v) > 0}) super(a, -1) {
		this.n = a;
	}
	def g(): void {
		return;
	}
	def f(a: int, b: bool[]?): A? {
		let x: int[][]? = list int[](3, null);
		let y = a * (2 + a) % 5 - a / 2;
		if (y < 3 || b == null) {
			y = 4;
		} else if (y >= 9) {
			this.m = new A();
		} else {
			x[y][0] = -y;
		}
		while (y <= 10) invariant y >= 0 invariant true {
			y = y + 1;
			this.g();
		}
		return this.m.next(a, x[1])[read()].m;
	}
}
main {
	let b: B = new B(1, null);
	assert !b.f(1, null).ok || false;
	print len(list bool{v | v}(2, true));
	b.f(0, null).m = b;
	b.g();
}
`)
}

// P11.5: members of each sort in mixed order, several invariants and ctors, super without arguments.
func TestPrintMembers(t *testing.T) {
	wantPrint(t, "class A extends B { def f():int{} invariant 1; new(){} var x:B; new(a:int)super(){a;} invariant 2; final y:bool; } main{}", `class A extends B {
	var x: B;
	final y: bool;
	invariant 1;
	invariant 2;
	new() {
	}
	new(a: int) super() {
		a;
	}
	def f(): int {
	}
}
main {
}
`)
}

// P11.5: else: left out where it is empty; an if that is all of it stands right behind it.
func TestPrintElse(t *testing.T) {
	wantPrint(t, "main { if (a) { } else { } }", "main {\n\tif (a) {\n\t}\n}\n")
	alone := "main {\n\tif (a) {\n\t} else if (b) {\n\t\tx;\n\t} else if (c) {\n\t} else {\n\t\ty;\n\t}\n}\n"
	wantPrint(t, "main { if (a) { } else if (b) { x; } else if (c) { } else { y; } }", alone)
	wantPrint(t, "main { if (a) { } else { if (b) { x; } else { if (c) { } else { y; } } } }", alone)
	wantPrint(t, "main { if (a) { } else { if (b) { } x; } }", "main {\n\tif (a) {\n\t} else {\n\t\tif (b) {\n\t\t}\n\t\tx;\n\t}\n}\n")
	wantPrint(t, "main { if (a) { } else { while (b) { } } }", "main {\n\tif (a) {\n\t} else {\n\t\twhile (b) {\n\t\t}\n\t}\n}\n")
	wantPrint(t, "main { if (a) { } else { if (b) { } else { } } }", "main {\n\tif (a) {\n\t} else if (b) {\n\t}\n}\n")
	wantPrint(t, "main { if (a) { if (b) { } } else { if (c) { } if (d) { } } }", "main {\n\tif (a) {\n\t\tif (b) {\n\t\t}\n\t} else {\n\t\tif (c) {\n\t\t}\n\t\tif (d) {\n\t\t}\n\t}\n}\n")
}

// P11.5: statements that have an expression ahead of = lose the brackets round it.
func TestPrintAssignments(t *testing.T) {
	wantPrint(t, "main{(x)=(1);((x.y))=2;(x[1])=3;(-x).y=4;(x+y)[5]=6;(x.y)[z]=(7==8)==9;}", `main {
	x = 1;
	x.y = 2;
	x[1] = 3;
	(-x).y = 4;
	(x + y)[5] = 6;
	x.y[z] = (7 == 8) == 9;
}
`)
}

// P11.5: each line's tabs, in blocks in one another.
func TestPrintTabs(t *testing.T) {
	want := "main {\n"
	for i := 1; i < 60; i++ {
		want += strings.Repeat("\t", i) + "while (a) {\n"
	}
	for i := 59; i >= 0; i-- {
		want += strings.Repeat("\t", i) + "}\n"
	}
	wantPrint(t, "main{"+strings.Repeat("while(a){", 59)+strings.Repeat("}", 60), want)
}

// P11.5: of each expression the text, with no more brackets than are needed. Those of pairs of signs are held in TestPairsOfSigns.
func TestText(t *testing.T) {
	for _, s := range []string{
		"7", "0", "true", "false", "null", "this", "x", "read()", "new A()", "new A(1, x)", "len(a)", "len(a + b)",
		"list int(1, 2)", "list int{v | v > 0}(1 + 2, a => b)", "list A?[]{v | len(v) == 0}[](n, null)",
		"x.y", "x.y.z", "x.f()", "x.f(1)", "x.f(1, a => b)", "x[0]", "x[0][a => b]", "x.f(1)[2].y.g()",
		"7.f", "this.x", "null.x", "new A().x", "new A(1)[0]", "list int(1, 2)[0]", "list int(1, 2).f()", "len(a).x", "read().x", "read()[0]",
		"-x", "!x", "--x", "!-x", "-!x", "!!x", "-7", "-x.y", "!x[0]", "-x.f()", "(-x).y", "(!x)[0]", "(-x).f(1)",
		"-(a + b)", "!(a == b)", "-(a * b)", "!(a => b)", "-a + b", "-a * b", "a * -b", "a - -b", "a + !b", "!a && !b",
		"(a + b).x", "(a * b)[0]", "(a => b).f(c)", "(a == b).x", "(a - b).f()",
		"a => b => c", "(a => b) => c", "(a => b) => c => d", "a || (b => c)", "(a || b) && c", "a * (b + c) * d",
	} {
		wantText(t, s, s)
	}
	for s, want := range map[string]string{
		"(x)": "x", "((7))": "7", "(x).y": "x.y", "(x.y).z": "x.y.z", "(x.f()).g()": "x.f().g()", "(x[0])[1]": "x[0][1]", "(new A()).x": "new A().x",
		"(list int(1, 2))[0]": "list int(1, 2)[0]", "x[(1)]": "x[1]", "x.f((1), (a => b))": "x.f(1, a => b)", "len((a))": "len(a)", "new A((1))": "new A(1)",
		"-(x)": "-x", "-(-x)": "--x", "!(!x)": "!!x", "-(x.y)": "-x.y", "-(x[0])": "-x[0]", "(-x) * y": "-x * y", "x - (-y)": "x - -y", "x--y": "x - -y", "!(x.f())": "!x.f()",
		"(a => (b => c))": "a => b => c", "((a + b) + c) + d": "a + b + c + d", "(a * b) + (c * d)": "a * b + c * d", "((a < b) && (c < d)) || e": "a < b && c < d || e",
		"list int {v|(v)} ((1), ((2)))": "list int{v | v}(1, 2)", "a  \t\n+ // x\nb": "a + b", "a=>b==c": "a => b == c",
	} {
		wantText(t, s, want)
	}
}

// P11.5: of each type the text, which is read as the same one.
func TestTypeText(t *testing.T) {
	for s, want := range map[string]string{
		"int": "int", "bool": "bool", "A": "A", "A?": "A?", "A ?": "A?", "int [ ]": "int[]", "A?[]?": "A?[]?", "A[ ]?[]": "A[]?[]", "bool[][]?": "bool[][]?",
		"int{v|v>0}": "int{v | v > 0}", "int {v | (v) > (0)} [ ]": "int{v | v > 0}[]", "A?{v|v!=null}[]?{v|len(v)>0}[]": "A?{v | v != null}[]?{v | len(v) > 0}[]",
		"int{v | x => v || (y => v)}": "int{v | x => v || (y => v)}", "v": "v", "v{v|v}": "v{v | v}", "int{v | list int{v | v}(1, 2) == null}[]": "int{v | list int{v | v}(1, 2) == null}[]",
	} {
		tree := typ(t, s)
		got := syntax.TypeText(tree)
		if got != want {
			t.Errorf("TypeText of %q: %q; want %q", s, got, want)
		}
		if !reflect.DeepEqual(typ(t, got), tree) {
			t.Errorf("%q is read otherwise than %q", got, s)
		}
	}
	if got := syntax.TypeText(bare(t, "class A { def f(): void { } } main { }").Classes[0].Meths[0].Result); got != "void" {
		t.Errorf("TypeText of void: %q", got)
	}
}

// P11.5: texts and types hang on the tree alone, not on its places.
func TestPlacesDontCount(t *testing.T) {
	p := program(t, ordinary)
	if got, want := syntax.Print(bare(t, ordinary)), syntax.Print(p); got != want {
		t.Errorf("without places:\n%s\nwant\n%s", got, want)
	}
	e := program(t, "main { print  ( a + b ) * c; }").Main[0].Exprs[0]
	if got := syntax.Text(e); got != "(a + b) * c" {
		t.Errorf("Text: %q", got)
	}
}

// P11.6: only a print that is too long isn't read again.
func TestPrintTooLong(t *testing.T) {
	deep := "main{" + strings.Repeat("while(a){", 90) + strings.Repeat("x;", 1000) + strings.Repeat("}", 91)
	printed := syntax.Print(program(t, deep))
	if len(printed) <= api.MaxSource {
		t.Fatalf("%d bytes", len(printed))
	}
	wantFault(t, printed, api.ErrLong, api.MaxSource)
	wantPrinted(t, deep)
	wantPrinted(t, "main{"+strings.Repeat("while(a){", 90)+strings.Repeat("x;", 500)+strings.Repeat("}", 91))
}

// P11.5, P11.6: the document's examples.
func TestPrintExamples(t *testing.T) {
	for _, s := range append(slices.Clone(examples), ordinary) {
		wantPrinted(t, s)
	}
}

// wantPrinted: Print of the text's program is laid out by the chapter, has no brackets that could be left out, and is read as that program, unless it is too long.
func wantPrinted(t *testing.T, s string) {
	t.Helper()
	p := bare(t, s)
	printed := syntax.Print(p)
	texts := tokenTexts(printed)
	if want := laidOut(texts); printed != want {
		t.Errorf("Print of %q:\n%s\nwant\n%s", short(s), printed, want)
	}
	if len(printed) > api.MaxSource {
		return
	}
	if got := bare(t, printed); !reflect.DeepEqual(got, p) {
		t.Errorf("%q is read otherwise than %q", short(printed), short(s))
	}
	if again := syntax.Print(program(t, printed)); again != printed {
		t.Errorf("Print of a print:\n%s\nwant\n%s", short(again), short(printed))
	}
}

// tokenTexts: of a text that may have more bytes than lex takes.
func tokenTexts(s string) []string {
	var list []string
	for line := range strings.Lines(s) {
		tokens, _ := lex.Tokens(line)
		for _, token := range tokens {
			list = append(list, token.Text)
		}
	}
	return list
}

// wantNoBracketsMore: without any one pair of its round brackets a print is read otherwise, or not at all.
func wantNoBracketsMore(t *testing.T, p api.Program, printed string) {
	t.Helper()
	texts := tokenTexts(printed)
	var open []int
	for i, text := range texts {
		switch text {
		case "(":
			open = append(open, i)
		case ")":
			from := open[len(open)-1]
			open = open[:len(open)-1]
			without, _ := lex.Join(slices.Concat(texts[:from], texts[from+1:i], texts[i+1:])...)
			got, fault := syntax.Parse(without)
			if fault.Code != api.OK {
				continue
			}
			everyPlace(reflect.ValueOf(&got).Elem(), forget)
			if reflect.DeepEqual(got, p) {
				t.Errorf("brackets more than are needed in %q", short(printed))
			}
		}
	}
}
