package typing_test

import (
	"slices"
	"strings"
	"testing"

	"surety/api"
)

// P13.5: let.
func TestLet(t *testing.T) {
	each(t, []wrong{
		{api.ErrTwice, "^let i = 1;"},
		{api.ErrTwice, "let y = 1; ^let y = 2;"},
		{api.ErrTwice, "let y = 1; if (p) { ^let y = 2; }"},
		{api.ErrTwice, "let y = 1; if (p) { } else { ^let y: bool = true; }"},
		{api.ErrTwice, "let y = 1; while (p) { while (p) { ^let y = 2; } }"},
		{api.ErrTwice, "if (p) { let y = 1; ^let y = 1; }"},
		{api.ErrTwice, "if (p) { let y = 1; } let y = 2; ^let y = 3;"},
		{api.ErrNoType, "let y: ^D = null;"},
		{api.ErrNoType, "let y: ^D?[] = null;"},
		{api.ErrNoType, "let y: ^D[][]? = null;"},
		{api.ErrName, "let y: bool{v | v == ^u}[][] = null;"},
		{api.ErrName, "let y: bool[]{v | len(v) > ^u}[] = null;"},
		{api.ErrName, "let y: bool[][]{v | len(v) > ^u} = null;"},
		{api.ErrType, "let y: int = ^true;"},
		{api.ErrType, "let y: bool = 1 ^+ i;"},
		{api.ErrType, "let y: int = ^null;"},
		{api.ErrType, "let y: bool = a.^nothing();"},
		{api.ErrType, "let y: B = ^a;"},
		{api.ErrType, "let y: A = ^x;"},
		{api.ErrType, "let y: C = ^new B();"},
		{api.ErrType, "let y: bool[] = ^is;"},
		{api.ErrType, "let y: A[] = ^as;"},
		{api.ErrType, "let y: I?[] = ^as;"},
		{api.ErrType, "let y: int{v | v > 0}[] = ^is;"},
		{api.ErrType, "let y: int[] = ^list int{v | v > 0}(0, 1);"},
		{api.ErrType, "let y: A = ^as;"},
		{api.ErrType, "let y: int[] = ^1;"},
		{api.ErrType, "let y = ^null;"},
		{api.ErrType, "let y = a.^nothing();"},
		{api.ErrType, "let y = 1; y = ^true;"},
		{api.ErrType, "let y = new B(); y = ^a;"},
		{api.ErrType, "let y = list int(0, 1); y = ^list bool(0, true);"},
		{api.ErrType, "let y = list int{v | v > 0}(0, 1); y = ^is;"},
	}, []wrong{
		{api.ErrTwice, "main { let y = 1; ^let y = y; }"},
		{api.ErrTwice, "class A { new(x: int) { ^let x = 1; } } main { }"},
		{api.ErrTwice, "class A { final n: int; new(x: int) { let y = x; this.n = y; ^let y = 1; } } main { }"},
	})
	fine(t, within("let n = i; let y: int{v | v > i && v != 0} = i; if (p) { let z = 1; } else { let z = true; } while (p) { let z = a; z = b; z = null; } let z: I = b; z = a;"))
	fine(t, within("let k: int[]? = is; k = null; let m: int{v | v > 0}[]?{v | len(v) > i && v != null} = list int{v | v > 0}(1, 1);"))
	fine(t, within("let n: I = null; let f = list A?(0, b); f[0] = null; f = as; f = null; let v = 1; v = v + 1; let nobody: int[]? = null; nobody = is; let g: int[]?[] = list int[]?(0, null);"))
	fine(t, "class A { final n: int; new(x: int) { let n: int{v | v > x} = 1; this.n = n; } def f(): void { let x = 1; } def g(): void { let x = true; let y: bool = x; } } main { let x = new A(1); x.f(); let n = x.n; let g = n + 1; }")
}

// P13.5: set.
func TestSet(t *testing.T) {
	each(t, []wrong{
		{api.ErrName, "^nobody = 1;"},
		{api.ErrName, "^nothing = 1;"},
		{api.ErrName, "^v = 1;"},
		{api.ErrFinal, "^i = 1;"},
		{api.ErrFinal, "if (p) { ^p = true; }"},
		{api.ErrFinal, "^c = this;"},
		{api.ErrType, "let y = 1; y = ^true;"},
		{api.ErrType, "let y = 1; y = ^null;"},
		{api.ErrType, "let y = 1; y = a.^nothing();"},
		{api.ErrType, "let y: A? = b; y = ^x;"},
		{api.ErrType, "let y: A? = b; y = ^c;"},
		{api.ErrType, "let y = p; while (p) { y = ^1; }"},
	}, []wrong{
		{api.ErrName, "class A { final n: int; new() { ^n = 1; this.n = 2; } } main { }"},
		{api.ErrFinal, "class A { new(n: int) { ^n = 1; } } main { }"},
		{api.ErrName, "main { ^n = 1; }"},
	})
	fine(t, within("let y = 1; y = i; y = y + 1; let z: A? = b; z = null; z = a; z = b; if (p) { y = 3; } let k: I? = a; k = z; let q = is; q = null; q = list int(0, 0); let u = as; u[0].m = 1;"))
}

// P13.5: a field that is set.
func TestField(t *testing.T) {
	each(t, []wrong{
		{api.ErrType, "^p.m = 1;"},
		{api.ErrType, "^is.m = 1;"},
		{api.ErrType, "^a.n.m = 1;"},
		{api.ErrType, "^a.nothing().m = 1;"},
		{api.ErrName, "^a.nobody = 1;"},
		{api.ErrName, "^a.g = 1;"},
		{api.ErrName, "^x.m = 1;"},
		{api.ErrName, "^this.m = 1;"},
		{api.ErrFinal, "^a.n = 1;"},
		{api.ErrFinal, "^a.up = null;"},
		{api.ErrFinal, "^b.next.up.n = 1;"},
		{api.ErrType, "a.m = ^true;"},
		{api.ErrType, "a.m = ^null;"},
		{api.ErrType, "a.next = ^c;"},
		{api.ErrType, "a.next = ^x;"},
		{api.ErrType, "b.all = ^is;"},
		{api.ErrType, "b.next.m = a.^nothing();"},
	}, []wrong{
		{api.ErrFinal, "class A { final n: int; new(a: A) { this.n = 1; ^a.n = 2; } } main { }"},
		{api.ErrFinal, "class A { final n: int; new() { this.n = 1; } def f(): void { ^this.n = 2; } } main { }"},
		{api.ErrFinal, "class A { final n: int; new() { this.n = 1; } } main { ^new A().n = 2; }"},
		{api.ErrFinal, "class A { final n: int; new() { this.n = 1; } } class B extends A { def f(): void { ^this.n = 2; } } main { }"},
	})
	fine(t, within("a.m = i; b.m = b.m + 1; a.next = null; a.next = b; b.next.next = a; as[0].next.m = 1; b.all = as; b.all = null; a.next = as[1].all[2].next;"))
	fine(t, "class A { var n: int; new(a: A) { this.n = 1; a.n = 2; if (true) { a.n = 3; } } def f(): void { this.n = 2; } } class B extends A { new() super(null) { } def g(): void { this.n = 1; } } main { new B().n = 2; }")
}

// P13.5: a list's part that is set.
func TestElem(t *testing.T) {
	each(t, []wrong{
		{api.ErrType, "^i[0] = 1;"},
		{api.ErrType, "^a[0] = a;"},
		{api.ErrType, "^p[0] = p;"},
		{api.ErrType, "^is[0][0] = 1;"},
		{api.ErrType, "is[^true] = 1;"},
		{api.ErrType, "is[^null] = 1;"},
		{api.ErrType, "is[0] = ^true;"},
		{api.ErrType, "is[0] = ^null;"},
		{api.ErrType, "is[0] = ^is;"},
		{api.ErrType, "as[0] = ^x;"},
		{api.ErrType, "as[0] = ^c;"},
		{api.ErrType, "as[is[0]].all[a.n] = ^as;"},
		{api.ErrType, "as[0] = a.^nothing();"},
	}, nil)
	fine(t, within("is[0] = 1; is[is[0]] = is[1]; as[0] = null; as[i] = b; as[as[1].n].all[0] = as[2]; a.all[0] = a; let y = list int[](1, is); y[0] = null; y[0][1] = 2; y[1] = is;"))
}

// P13.5: if, while, assert, print, do.
func TestConditions(t *testing.T) {
	conditions := []string{"if (X) { }", "while (X) { }", "assert X;", "while (p) invariant X { }", "while (p) invariant p invariant X { }", "if (p) { } else if (X) { }", "let y: int{v | X} = 1;"}
	for _, part := range []string{"p ^== p", "i ^> j", "^true", "^1", "^i", "i ^+ j", "^null", "^a", "^this"} {
		plain, _ := marked(t, part)
		isBool := slices.Contains([]string{"p == p", "i > j", "true"}, plain)
		isInt := slices.Contains([]string{"1", "i", "i + j"}, plain)
		for _, text := range conditions {
			if isBool {
				fine(t, within(strings.Replace(text, "X", plain, 1)))
			} else {
				wantMarked(t, api.ErrType, within(strings.Replace(text, "X", part, 1)))
			}
		}
		if isInt {
			fine(t, within("print "+plain+";"))
		} else {
			wantMarked(t, api.ErrType, within("print "+part+";"))
		}
		fine(t, within(plain+";"))
	}
	each(t, []wrong{
		{api.ErrType, "print a.^nothing();"},
		{api.ErrType, "assert a.^nothing();"},
		{api.ErrName, "^nobody;"},
		{api.ErrName, "while (p) { ^nobody; }"},
		{api.ErrName, "if (p) { ^nobody; }"},
		{api.ErrName, "if (p) { } else { ^nobody; }"},
		{api.ErrName, "if (p) { } else if (p) { ^nobody; }"},
		{api.ErrName, "if (p) { } else if (p) { } else { ^nobody; }"},
	}, nil)
	fine(t, within("a.nothing(); 1; null; read(); if (p) { } else { }"))
	fine(t, "main { }")
}

// P13.5: return.
func TestReturn(t *testing.T) {
	each(t, []wrong{
		{api.ErrType, "^return 1;"},
		{api.ErrType, "^return null;"},
		{api.ErrType, "^return a.nothing();"},
		{api.ErrType, "if (p) { ^return 1; }"},
	}, []wrong{
		{api.ErrReturn, "main { ^return; }"},
		{api.ErrReturn, "main { ^return 1; }"},
		{api.ErrReturn, "main { if (true) { ^return; } }"},
		{api.ErrReturn, "main { while (true) { ^return; } }"},
		{api.ErrReturn, "class A { new() { ^return; } } main { }"},
		{api.ErrReturn, "class A { def f(): int { return 1; } new() { ^return 1; } } main { }"},
		{api.ErrReturn, "class A { def f(): void { return; } } main { ^return; }"},
		{api.ErrType, "class A { def f(): int { ^return; } } main { }"},
		{api.ErrType, "class A { def f(): int { if (true) { ^return; } return 1; } } main { }"},
		{api.ErrType, "class A { def f(): int { return ^true; } } main { }"},
		{api.ErrType, "class A { def f(): int { return ^null; } } main { }"},
		{api.ErrType, "class A { def f(): int { return this.^g(); } def g(): void { } } main { }"},
		{api.ErrType, "class A { def f(): B { return ^this; } } class B extends A { } main { }"},
		{api.ErrType, "class A { def f(): int{v | v > 0}[] { return ^list int(0, 1); } } main { }"},
		{api.ErrType, "class A { def g(): bool { return true; } def f(): int { if (true) { return 1; } else { return this.^g(); } } } main { }"},
	})
	fine(t, within("if (p) { return; } return;"))
	fine(t, "class A { def f(): A { return new B(); } def g(): A? { return null; } def h(): int{v | v > 0}[]?{v | len(v) > 1} { return list int{v | v > 0}(0, 1); } def i(): int[] { return null; } } class B extends A { def g(): A { return this.f(); } } main { }")
}

// P13.6: classes without a ctor.
func TestNoCtor(t *testing.T) {
	each(t, nil, []wrong{
		{api.ErrInit, "class ^A { var n: int; } main { }"},
		{api.ErrInit, "class ^A { final n: A?; } main { }"},
		{api.ErrInit, "class A { } class ^B extends A { final n: A?; } main { }"},
		{api.ErrNoMethod, "class A { new(k: int) { } } class ^B extends A { } main { }"},
		{api.ErrNoMethod, "class ^B extends A { } class A { new(k: int) { } } main { }"},
		{api.ErrNoMethod, "class A { new(k: int) { } } class B extends A { new() super(1) { } } class C extends B { } class ^D extends A { } main { }"},
		{api.ErrInit, "class B extends A { } class ^A { final n: A?; } main { }"},
		{api.ErrNoMethod, "class C extends B { } class ^B extends A { } class A { new(k: int) { } } main { }"},
	})
	fine(t, "class A { } class B extends A { } class C extends B { new() { } } class D extends C { } class E extends C { new() super() { } } interface I { } class F implements I { } main { let x = new A(); x = new B(); x = new C(); x = new D(); x = new E(); let i = new F(); }")
	fine(t, "class A { var n: int; new() { this.n = 1; } } class B extends A { } main { print new B().n; }")
}

// P13.6: the super's arguments.
func TestSuper(t *testing.T) {
	const a = "class A { new(k: int, a: A?) { } } class Z { } "
	each(t, nil, []wrong{
		{api.ErrNoMethod, a + "class B extends A { ^new() { } } main { }"},
		{api.ErrNoMethod, a + "class B extends A { ^new() super() { } } main { }"},
		{api.ErrNoMethod, a + "class B extends A { ^new() super(1) { } } main { }"},
		{api.ErrNoMethod, a + "class B extends A { ^new() super(1, null, 2) { } } main { }"},
		{api.ErrNoMethod, a + "class B extends A { ^new() super(true, null) { } } main { }"},
		{api.ErrNoMethod, a + "class B extends A { ^new() super(null, null) { } } main { }"},
		{api.ErrNoMethod, a + "class B extends A { ^new(b: Z) super(1, b) { } } main { }"},
		{api.ErrNoMethod, a + "class B { ^new() super() { } } main { }"},
		{api.ErrNoMethod, a + "class B { ^new() super(1, null) { } } main { }"},
		{api.ErrNoMethod, a + "class B extends Z { ^new() super(1) { } } main { }"},
		{api.ErrNoMethod, a + "class B extends Z { ^new() super(1, null) { } } main { }"},
		{api.ErrNoMethod, a + "class B extends A { new() super(1, null) { } } class C extends B { ^new() super(1, null) { } } main { }"},
		{api.ErrName, a + "class B extends A { new() super(^k, null) { } } main { }"},
		{api.ErrName, a + "class B { new() super(^k, null) { } } main { }"},
		{api.ErrName, a + "class B extends A { new(k: int) super(k, ^a) { let a = 1; } } main { }"},
		{api.ErrPred, a + "class B extends A { new(k: bool) super(k ^=> k, null) { } } main { }"},
		{api.ErrThis, a + "class B extends A { new(k: int) super(k, ^this) { } } main { }"},
	})
	fine(t, a+"class B extends A { new(k: int, b: B) super(k + read(), new B(1, b)) { } } class C extends B { new() super(1, null) { } } class D extends Z { new() { } } class E extends Z { new() super() { } } main { }")
	fine(t, "class B extends A { new(v: bool) super(v) { } } class A { new(k: bool) { } } main { let b = new B(true); }")
}

// P13.6: fields that are set at a ctor's top.
func TestInit(t *testing.T) {
	const a = "class A { final n: int; var m: int; new(k: int) { this.n = k; this.m = k; } } "
	each(t, nil, []wrong{
		{api.ErrInit, "class A { final n: int; ^new() { } } main { }"},
		{api.ErrInit, "class A { var n: int; ^new() { } } main { }"},
		{api.ErrInit, "class A { var n: int; final m: int; ^new() { this.m = 1; } } main { }"},
		{api.ErrInit, "class A { var n: int; final m: int; ^new() { this.n = 1; } } main { }"},
		{api.ErrInit, "class A { var n: int; new() { this.n = 1; ^this.n = 2; } } main { }"},
		{api.ErrInit, "class A { final n: int; var m: int; new() { this.n = 1; this.m = 2; ^this.n = 2; } } main { }"},
		{api.ErrInit, "class A { new() { ^this.n = 1; } } main { }"},
		{api.ErrInit, "class A { final n: int; new() { ^this.m = 1; this.n = 2; } } main { }"},
		{api.ErrInit, "class A { final n: int; new() { ^this.f = 1; } def f(): void { } } main { }"},
		{api.ErrInit, a + "class B extends A { new() super(1) { ^this.n = 1; } } main { }"},
		{api.ErrInit, a + "class B extends A { new() super(1) { ^this.m = 1; } } main { }"},
		{api.ErrInit, a + "class B extends A { var o: int; ^new() super(1) { } } main { }"},
		{api.ErrInit, "class A { var n: int; ^new(a: A) { a.n = 1; } } main { }"},
		{api.ErrType, "class A { var n: int; new() { this.n = ^true; } } main { }"},
		{api.ErrType, "class A { var n: A; new(k: int) { this.n = ^k; } } main { }"},
		{api.ErrName, "class A { var n: int; new() { this.n = ^n; } } main { }"},
		{api.ErrThis, "class A { var n: int; var m: int; new() { this.n = 1; this.m = ^this.n + 1; } } main { }"},
		{api.ErrThis, "class A { var n: int; new() { this.n = 1; ^this.n; } } main { }"},
		{api.ErrThis, "class A { var n: int[]; new() { this.n = list int(0, 0); ^this.n[0] = 1; } } main { }"},
	})
	fine(t, a+"class B extends A { final o: A?; var p: int[]; new(a: A, b: B) super(a.n) { let k = 1; this.p = list int(k, k); if (k > 1) { print k; a.m = b.m; } this.o = null; b.o.m = k; k = 2; } } main { let b = new B(new A(1), null); }")
}
