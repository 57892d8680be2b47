package typing_test

import (
	"strings"
	"testing"

	"surety/api"
)

// wrong is a text with a fault at the mark ^.
type wrong struct {
	code api.Errno
	text string
}

// each: of statements within a method, and of whole programs.
func each(t *testing.T, bodies, programs []wrong) {
	t.Helper()
	for _, w := range bodies {
		wantMarked(t, w.code, within(w.text))
	}
	for _, w := range programs {
		wantMarked(t, w.code, w.text)
	}
}

// P13.2: classes.New's faults are told ahead of all others, wherever they stand.
func TestFaultsOfClasses(t *testing.T) {
	each(t, nil, []wrong{
		{api.ErrNoType, "class A { final n: int{v | nobody}; } class ^B extends C { } main { print true; }"},
		{api.ErrTwice, "class A { var n: int; } class ^A { } main { return; }"},
		{api.ErrKind, "interface I { } class A { def f(): int { } } class ^B extends I { } main { }"},
		{api.ErrCycle, "class ^A extends A { def f(): int { print true; } } main { }"},
		{api.ErrOverride, "class A { var n: int; def f(): int { return 1; } } class B extends A { def ^f(): bool { return true; } } main { }"},
		{api.ErrImplements, "interface I { def f(): void; } class ^A implements I { var n: int; } main { }"},
		{api.ErrNoType, "class A { var m: bool{v | v + 1}; var n: ^B; } main { }"},
		{api.ErrNoType, "class A { var m: bool{v | v + 1}; def f(x: int{v | w}): ^B?[] { } } main { }"},
		{api.ErrTwice, "class A { new(a: int{v | b}, ^a: int) { } } main { }"},
	})
}

// P13.2: a method whose body doesn't end.
func TestNoReturn(t *testing.T) {
	for _, body := range []string{
		"", "print 1;", "if (true) { return 1; }", "if (true) { return 1; } else { }", "if (true) { } else { return 1; }",
		"while (true) { return 1; }", "if (true) { return 1; } else if (false) { return 2; }",
		"if (true) { if (false) { return 1; } } else { return 2; }", "if (true) { while (true) { return 1; } } else { return 2; }",
		"let x = 1; if (true) { return 1; } else { x = 2; }",
	} {
		wantMarked(t, api.ErrReturn, "class A { def ^f(): int { "+body+" } } main { }")
		fine(t, "class A { def f(): void { "+noResult(body)+" } } main { }")
	}
	for _, body := range []string{
		"return 1;", "return 1; print 2;", "print 2; return 1;", "return 1; return 2;",
		"if (true) { return 1; } else { return 2; }", "if (true) { return 1; } else { return 2; } print 3;",
		"if (true) { return 1; } else if (false) { return 2; } else { return 3; }",
		"if (true) { print 1; return 1; print 2; } else { if (false) { return 2; } else { return 3; } }",
		"while (true) { } return 1;", "if (true) { } return 1;",
	} {
		fine(t, "class A { def f(): int { "+body+" } } main { }")
	}
	fine(t, "interface I { def f(): int; } main { }")
}

// noResult: of a body whose returns give back a digit.
func noResult(body string) string {
	return strings.NewReplacer("return 1;", "return;", "return 2;", "return;", "return 3;", "return;").Replace(body)
}

// P13.3: names that aren't there.
func TestNames(t *testing.T) {
	each(t, []wrong{
		{api.ErrName, "print ^nobody;"},
		{api.ErrName, "print 1 + i + ^k;"},
		{api.ErrName, "let y = ^y;"},
		{api.ErrName, "print ^y; let y = 1;"},
		{api.ErrName, "if (p) { let y = 1; print y; } print ^y;"},
		{api.ErrName, "if (p) { let y = 1; } else { print ^y; }"},
		{api.ErrName, "if (p) { } else { let y = 1; } print ^y;"},
		{api.ErrName, "if (p) { let y = 1; } else if (^y == 1) { }"},
		{api.ErrName, "while (p) { let y = 1; } print ^y;"},
		{api.ErrName, "while (p) invariant ^y == 1 { let y = 1; }"},
		{api.ErrName, "while (^y == 1) { let y = 1; }"},
		{api.ErrName, "let y = 1; if (p) { let z = 2; print y + z; } print y + ^z;"},
		{api.ErrName, "print ^v;"},
		{api.ErrName, "let y: int{v | v > ^y} = 1;"},
		{api.ErrName, "let y = 1; let z: int{v | v > ^y} = 1;"},
		{api.ErrName, "let z: int[]{v | len(v) > i && len(v) > ^z} = is;"},
		{api.ErrName, "let y: int{v | v > ^i}[] = is;"},
		{api.ErrName, "let y: int[]{v | len(v) > ^i}[] = null;"},
		{api.ErrName, "let y = 1; print list int{v | v > ^y}(0, 0)[0];"},
		{api.ErrName, "print list int{v | v > ^i}(0, 0)[0];"},
		{api.ErrName, "print list int{v | v > 0}[]{v | len(v) > ^i}(0, null)[0][0];"},
		{api.ErrName, "^y = 1;"},
		{api.ErrName, "if (p) { let y = 1; y = 2; } ^y = 3;"},
		{api.ErrName, "print a.^nobody;"},
		{api.ErrName, "print x.^n;"},
		{api.ErrName, "print a.^g;"},
		{api.ErrName, "print c.^n;"},
		{api.ErrName, "print b.up.next.^i;"},
	}, []wrong{
		{api.ErrName, "main { print ^v; }"},
		{api.ErrName, "class A { final n: int{v | v > ^n}; new() { this.n = 1; } } main { }"},
		{api.ErrName, "class A { final n: int; invariant ^n > 0; new() { this.n = 1; } } main { }"},
		{api.ErrName, "class A { invariant ^v; } main { }"},
		{api.ErrName, "class A { def f(x: int{v | v > ^x}): void { } } main { }"},
		{api.ErrName, "class A { def f(x: int{v | v > ^y}, y: int): void { } } main { }"},
		{api.ErrName, "class A { new(x: int, y: int{v | v > x && v > ^z}, z: int) { } } main { }"},
		{api.ErrName, "class A { def f(x: int, y: int{v | v > ^x}[]): void { } } main { }"},
		{api.ErrName, "class A { def f(x: int): int{v | v > ^x}[] { return null; } } main { }"},
		{api.ErrName, "class A { def f(x: int): int{v | v > x} { return 1; } def g(): int{v | v > ^x} { return 1; } } main { }"},
		{api.ErrName, "class A { def f(x: int): void { } def g(): void { print ^x; } } main { }"},
		{api.ErrName, "class A { def f(x: int): void { let y = x; } def g(): void { print ^y; } } main { }"},
		{api.ErrName, "class A { new(x: int) { let y = x; } def g(): void { print ^y; } } main { }"},
		{api.ErrName, "class A { def f(x: int): void { } } main { print ^x; }"},
		{api.ErrName, "class A { def f(): void { let x = 1; } } main { print ^x; }"},
		{api.ErrName, "class A { new(x: int) { } } class B extends A { new(y: int) super(^x) { } } main { }"},
		{api.ErrName, "class A { new(x: int) { } } class B extends A { new(y: int) super(^z) { let z = y; } } main { }"},
		{api.ErrName, "interface I { def f(x: int{v | ^i}): void; } main { }"},
		{api.ErrName, "main { let y = 1; let z: int{v | v > ^y} = 1; }"},
		{api.ErrName, "class A { new() { let y = 1; let z: int{v | v > ^y} = 1; } } main { }"},
	})
}

// P13.3: this where it isn't there.
func TestThis(t *testing.T) {
	each(t, []wrong{
		{api.ErrThis, "let y: C{v | v == ^this}[] = null;"},
		{api.ErrThis, "print len(list C{v | v == ^this}(0, this));"},
	}, []wrong{
		{api.ErrThis, "main { let x = ^this; }"},
		{api.ErrThis, "main { let x: int{v | ^this == null} = 1; }"},
		{api.ErrThis, "main { print ^this.n; }"},
		{api.ErrThis, "class A { final n: int; new() { this.n = 1; print ^this.n; } } main { }"},
		{api.ErrThis, "class A { final n: int; final m: int; new() { this.n = 1; this.m = ^this.n; } } main { }"},
		{api.ErrThis, "class A { final n: int; new() { if (true) { ^this.n = 1; } this.n = 2; } } main { }"},
		{api.ErrThis, "class A { final n: int; new() { while (false) { ^this.n = 1; } this.n = 2; } } main { }"},
		{api.ErrThis, "class A { final n: A; new() { ^this.n.n = null; } } main { }"},
		{api.ErrThis, "class A { new() { ^this.f(); } def f(): void { } } main { }"},
		{api.ErrThis, "class A { new() { while (true) invariant ^this != null { } } } main { }"},
		{api.ErrThis, "class A { new() { let x: A{v | v != ^this} = new A(); } } main { }"},
		{api.ErrThis, "class A { new(x: A{v | v != ^this}) { } } main { }"},
		{api.ErrThis, "class A { new(x: A) { } } class B extends A { new() super(^this) { } } main { }"},
		{api.ErrThis, "class A { final x: A{v | v != ^this}[]; new() { this.x = null; } } main { }"},
		{api.ErrThis, "class A { final x: int[]{v | ^this == null}[]; new() { this.x = null; } } main { }"},
		{api.ErrThis, "class A { def f(x: A{v | v != ^this}[]): void { } } main { }"},
		{api.ErrThis, "interface I { def f(): I{v | v != ^this}[]; } main { }"},
	})
	fine(t, "interface I { def f(x: I{v | v != this}): I{v | v == this}; } main { }")
	fine(t, within("let y: C{v | v == this} = this; while (this != c) invariant this != c { }"))
}

// P13.4: what may not stand in predicates, and => elsewhere.
func TestPredicates(t *testing.T) {
	calls := []string{"a.^g(1) > 0", "^new A(1) != null", "^list int(0, 0) == null", "^read() > 0", "is^[0] > 0", "i ^/ 2 > 0", "i ^% 2 > 0"}
	for _, text := range calls {
		wantMarked(t, api.ErrPred, within("while (true) invariant "+text+" { }"))
		wantMarked(t, api.ErrPred, within("while (true) invariant !(1 == 1 => "+text+") { }"))
		wantMarked(t, api.ErrPred, within("let y: int{v | "+text+"} = 1;"))
		plain, _ := marked(t, text)
		fine(t, within("while ("+plain+") { assert "+plain+"; if ("+plain+") { } }"))
	}
	for _, text := range []string{"this.^g(1) > 0", "^new A(1) != null", "^list int(0, 0) == null", "^read() > 0", "this.ns^[0] > 0", "1 ^/ 2 > 0", "1 ^% 2 > 0"} {
		const class = "class A { final ns: int[]; var m: int; new(k: int) { this.ns = null; this.m = k; } def g(k: int): int { return k; } "
		wantMarked(t, api.ErrPred, class+"invariant "+text+"; } main { }")
		wantMarked(t, api.ErrPred, class+"def h(x: int{v | "+text+"}): void { } } main { }")
		wantMarked(t, api.ErrPred, class+"def h(): int{v | "+text+"} { return 1; } } main { }")
		wantMarked(t, api.ErrPred, class+"def h(): void { while (true) invariant "+text+" { } } } main { }")
		wantMarked(t, api.ErrPred, "class A { final n: int{v | "+text+"}; final ns: int[]; new(k: int) { this.n = k; this.ns = null; } def g(k: int): int { return k; } } main { }")
	}
	for _, text := range []string{"^read() > 0", "^new A() != null", "v ^/ 2 > 0", "v.^f()", "^list A(0, null) == null"} {
		const class = "class A { def f(): bool { return true; } } "
		wantMarked(t, api.ErrPred, class+"class B { def g(x: int{v | "+text+"}[]): void { } } main { }")
		wantMarked(t, api.ErrPred, class+"main { print len(list int{v | "+text+"}(0, 0)); }")
	}
	for _, text := range []string{"^new Nobody(nobody)", "^new I(1)", "^list Nobody(nobody, nobody)", "^list int{v | nobody}(1, 1)", "nobody ^/ true", "true ^% nobody", "nobody^[nobody]", "i^[p]", "nobody.^nobody(nobody)", "i.^g(1)", "-^new A(1)"} {
		wantMarked(t, api.ErrPred, within("while (p) invariant "+text+" == 1 { }"))
		wantMarked(t, api.ErrPred, within("let y: int{v | 1 == "+text+"} = 1;"))
	}
	each(t, []wrong{
		{api.ErrPred, "assert nobody ^=> 1;"},
		{api.ErrPred, "assert (p ^=> nobody) && nobody;"},
		{api.ErrPred, "while (true) invariant a.^m > 0 { }"},
		{api.ErrPred, "while (true) invariant a.up.^next == null { }"},
		{api.ErrPred, "while (true) invariant a.^next.up == null { }"},
		{api.ErrPred, "let y: A{v | v.n > v.^m} = a;"},
		{api.ErrPred, "let y: int{v | b.^m > v} = 1;"},
		{api.ErrPred, "let y: A{v | v.^m > 0}[]? = null;"},
		{api.ErrPred, "assert p ^=> p;"},
		{api.ErrPred, "print i + (p ^=> i);"},
		{api.ErrPred, "while (p ^=> p) { }"},
		{api.ErrPred, "if (p ^=> p) { }"},
		{api.ErrPred, "let y = p ^=> p;"},
		{api.ErrPred, "let y = p ^=> (p => p);"},
		{api.ErrPred, "is[i] = p ^=> p;"},
	}, []wrong{
		{api.ErrPred, "main { print true ^=> 1; }"},
		{api.ErrPred, "class A { var m: int; invariant this.^m > 0; } main { }"},
	})
	fine(t, within("while (true) invariant a.n > 0 => a.up == null && len(a.ns) > -i * 2 + len(is) invariant !p { }"))
	fine(t, within("let y: A{v | v.n > 0 => v.up != null && (v.b => v.up == b)} = a;"))
}

// P13.4: types that don't go together.
func TestTypes(t *testing.T) {
	for _, op := range []string{"+", "-", "*", "/", "%", "<", "<=", ">", ">="} {
		for _, other := range []string{"true", "null", "a", "is", "new C()", "a.nothing()", "list int(0, 0)", "p"} {
			wantMarked(t, api.ErrType, within("let y = i ^"+op+" "+other+";"))
			wantMarked(t, api.ErrType, within("let y = "+other+" ^"+op+" 1;"))
		}
		fine(t, within("let y = (1 "+op+" i) == (i "+op+" a.n);"))
	}
	for _, op := range []string{"&&", "||"} {
		for _, other := range []string{"1", "null", "a", "is", "new C()", "a.nothing()", "i"} {
			wantMarked(t, api.ErrType, within("let y = p ^"+op+" "+other+";"))
			wantMarked(t, api.ErrType, within("let y = "+other+" ^"+op+" true;"))
		}
		fine(t, within("let y: bool = (true "+op+" p) == (p "+op+" a.b);"))
	}
	for _, other := range []string{"1", "null", "a", "is", "i"} {
		wantMarked(t, api.ErrType, within("while (true) invariant p ^=> "+other+" { }"))
		wantMarked(t, api.ErrType, within("while (true) invariant "+other+" ^=> p { }"))
		wantMarked(t, api.ErrType, within("let y = ^!"+other+";"))
		if other != "is" {
			wantMarked(t, api.ErrType, within("let y = ^len("+other+");"))
			wantMarked(t, api.ErrType, within("let y = "+other+"^[0];"))
		}
		if other != "1" && other != "i" {
			wantMarked(t, api.ErrType, within("let y = ^-"+other+";"))
			wantMarked(t, api.ErrType, within("let y = is^["+other+"];"))
			wantMarked(t, api.ErrType, within("let y = ^list int("+other+", 1);"))
			wantMarked(t, api.ErrType, within("let y = ^list int(1, "+other+");"))
		}
		if other != "a" {
			wantMarked(t, api.ErrType, within("let y = "+other+".^n;"))
			wantMarked(t, api.ErrType, within("let y = "+other+".^g(1);"))
		}
	}
	each(t, []wrong{
		{api.ErrType, "let y = p.^n;"}, {api.ErrType, "let y = p.^g(1);"}, {api.ErrType, "let y = a.nothing().^n;"},
		{api.ErrType, "let y = ^list bool(1, 1);"}, {api.ErrType, "let y = ^list B(1, a);"}, {api.ErrType, "let y = ^list C(1, b);"},
		{api.ErrType, "let y = ^list int[](1, list bool(0, true));"}, {api.ErrType, "let y = ^list int[](1, list int{v | v > 0}(0, 0));"},
		{api.ErrType, "let y = ^list int(1, a.nothing());"}, {api.ErrType, "let y = ^list int(a.nothing(), 1);"},
	}, nil)
	fine(t, within("let y: int = -(-i) - -len(is) + len(as[0].all) + is[is[0]] + list A(i, b)[0].n; let z = !p == !!p; let u = list I[]?(1, null);"))
}

// P13.4: what may be held against what.
func TestSame(t *testing.T) {
	all := []string{"1", "p", "null", "a", "b", "x", "c", "is", "as", "list int{v | v > 0}(0, 0)", "list bool(0, p)", "list A(0, a)", "a.nothing()", "this"}
	alike := map[string]bool{}
	for _, pair := range [][2]string{
		{"1", "1"}, {"p", "p"}, {"null", "null"}, {"null", "a"}, {"null", "b"}, {"null", "x"}, {"null", "c"}, {"null", "is"}, {"null", "as"}, {"null", "this"},
		{"null", all[9]}, {"null", all[10]}, {"null", all[11]}, {"a", "a"}, {"a", "b"}, {"a", "x"}, {"b", "b"}, {"b", "x"}, {"x", "x"}, {"c", "c"}, {"c", "this"}, {"this", "this"},
		{"is", "is"}, {"as", "as"}, {all[9], all[9]}, {all[10], all[10]}, {all[11], all[11]},
	} {
		alike[pair[0]+"|"+pair[1]], alike[pair[1]+"|"+pair[0]] = true, true
	}
	for _, l := range all {
		for _, r := range all {
			for _, op := range []string{"==", "!="} {
				if alike[l+"|"+r] {
					fine(t, within("let y: bool = "+l+" "+op+" "+r+";"))
				} else {
					wantMarked(t, api.ErrType, within("let y = "+l+" ^"+op+" "+r+";"))
				}
			}
		}
	}
}

// P13.4: objects that can't be made.
func TestNew(t *testing.T) {
	each(t, []wrong{
		{api.ErrNoType, "let y = ^new D();"},
		{api.ErrAbstract, "let y = ^new I();"},
		{api.ErrNoMethod, "let y = ^new A();"},
		{api.ErrNoMethod, "let y = ^new A(true);"},
		{api.ErrNoMethod, "let y = ^new A(1, 2);"},
		{api.ErrNoMethod, "let y = ^new A(null);"},
		{api.ErrNoMethod, "let y = ^new A(a.nothing());"},
		{api.ErrNoMethod, "let y = ^new B(1);"},
		{api.ErrNoMethod, "let y = ^new C(1);"},
		{api.ErrNoMethod, "let y = ^new C(null);"},
	}, []wrong{
		{api.ErrNoMethod, "class A { new(a: A?, b: int[], i: B?) { } } class B extends A { new() super(null, null, null) { } } main { let x = new A(new B(), list int(0, 0), null); let y = ^new A(x, list int(0, 0), x); }"},
		{api.ErrNoMethod, "class A { new(a: A?, b: int[], i: B?) { } } class B extends A { new() super(null, null, null) { } } main { let y = ^new A(null, list int{v | v > 0}(0, 0), null); }"},
	})
	fine(t, within("let y = new A(new A(i).n); let z: A = new B(); let u: C = new C();"))
}

// P13.4: methods that aren't there or don't fit.
func TestNoMethod(t *testing.T) {
	each(t, []wrong{
		{api.ErrNoMethod, "a.^nobody();"},
		{api.ErrNoMethod, "a.^n();"},
		{api.ErrNoMethod, "a.^g();"},
		{api.ErrNoMethod, "a.^g(true);"},
		{api.ErrNoMethod, "a.^g(1, 2);"},
		{api.ErrNoMethod, "a.^g(null);"},
		{api.ErrNoMethod, "a.^g(a);"},
		{api.ErrNoMethod, "a.^g(a.nothing());"},
		{api.ErrNoMethod, "a.^nothing(1);"},
		{api.ErrNoMethod, "x.^nothing();"},
		{api.ErrNoMethod, "this.^g(1);"},
		{api.ErrNoMethod, "this.^f(1, 2, p, x, b, x, c, is, as);"},
		{api.ErrNoMethod, "this.^f(1, 2, p, a, a, x, c, is, as);"},
		{api.ErrNoMethod, "this.^f(1, 2, p, a, b, c, c, is, as);"},
		{api.ErrNoMethod, "this.^f(1, 2, p, a, b, x, c, as, as);"},
		{api.ErrNoMethod, "this.^f(1, 2, p, a, b, x, c, is);"},
	}, nil)
	fine(t, within("a.g(1); x.g(1); b.g(1); b.nothing(); this.f(1, 2, p, b, b, b, this, null, null); c.f(a.g(i), i, false, null, null, null, null, is, list A?(0, null)); as[0].g(1);"))
}
