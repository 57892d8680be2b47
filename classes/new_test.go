package classes_test

import (
	"strings"
	"testing"

	"surety/api"
)

// The chapter's examples.
func TestExamples(t *testing.T) {
	wantMarked(t, api.ErrImplements, "interface I { def f(a: int): int; } class ^A implements I { }")
	wantMarked(t, api.ErrCycle, "class ^A extends B { } class B extends A { }")
}

// P12.2: programs that have no fault here, whatever layers above say of them.
func TestFine(t *testing.T) {
	fine(t, "")
	fine(t, "class A { }")
	fine(t, "interface I { }")
	fine(t, "interface I extends J, J { } interface J { } class A implements I, I, J { }")
	fine(t, "class A extends B implements I { def f(): A? { return this; } } class B { var a: A; } interface I { def f(): A; }")
	fine(t, "class A { var A: A; new(A: A) { } def A(A: A): A { return A; } def A(): A { } }")
	fine(t, "class A { var x: int; def x(x: int): int { let x: Nobody = y; return x; } new(x: int) super() { this.x = true; } invariant nobody; }")
	fine(t, "class A { final x: int{v | new Nobody() == list Nobody(1, v)}; }")
	fine(t, "interface I { def f(a: int): int{v | v > a}; } interface J extends I { def f(b: int{v | v > 0}): int; }")
	fine(t, "interface I { def f(): A; } interface J { def f(): A?; } class A implements I, J { def f(): A{v | true} { return null; } }")
	fine(t, "interface I { def f(): int[]; } class A implements I { def f(): int[]? { } } class B extends A { def f(): int[]{v | true} { } }")
	fine(t, "class A { def f(x: int{v | v > 0}[]): int { } def f(x: int[]): bool { } def f(x: int[]{v | true}[]): A { } }")
}

// P12.2, 1: as many as may be, and one more.
func TestMany(t *testing.T) {
	for _, c := range []struct{ ahead, part, behind string }{
		{"class ^A { ", "var #: int; ", "}"},
		{"class ^A { ", "invariant #; ", "}"},
		{"class ^A { ", "def #(): int { } ", "}"},
		{"interface ^A { ", "def #(): void; ", "}"},
		{"interface I { } class ^A implements I", ", I", " { }"},
		{"interface I { } interface ^A extends I", ", I", " { }"},
		{"class A { ^new(o: int", ", #: int", ") { } }"},
		{"class A { def ^f(o: int", ", #: int", "): int { } }"},
		{"interface I { def ^f(o: A", ", #: A", "): int; } class A { }"},
	} {
		most := 64
		if strings.HasPrefix(c.part, ",") {
			most-- // one stands ahead of the comma
		}
		fine(t, strings.Replace(c.ahead, "^", "", 1)+lines(most, c.part)+c.behind)
		wantMarked(t, api.ErrMany, c.ahead+lines(most+1, c.part)+c.behind)
		wantMarked(t, api.ErrMany, c.ahead+lines(200, c.part)+c.behind)
	}
	fine(t, lines(64, "class # { }"))
	fine(t, lines(32, "class # { } interface I# { }"))
	wantMarked(t, api.ErrMany, lines(64, "class # { }")+"class ^A { }")
	wantMarked(t, api.ErrMany, lines(64, "interface # { }")+"interface ^A { } class B { }"+lines(100, "class X# { }"))
	wantMarked(t, api.ErrMany, "class ^A { "+lines(65, "new() { } var #: int; ")+"}")
}

// P12.2, 1: several ctors are no fault of the first step, nor are sorts that together are too many.
func TestNotMany(t *testing.T) {
	wantMarked(t, api.ErrTwice, "class A { new() { } ^new() { } "+strings.Repeat("new() { } ", 100)+"}")
	fine(t, "interface J { } class B { } class A extends B implements J"+strings.Repeat(", J", 63)+" { "+lines(64, "var #: int; invariant #; def #(): void { } ")+"new("+listed(64, "#: int")+") { } }")
}

// P12.2, 2: a name that is declared ahead.
func TestTwiceClass(t *testing.T) {
	wantMarked(t, api.ErrTwice, "class A { } class ^A { }")
	wantMarked(t, api.ErrTwice, "interface A { } class ^A { }")
	wantMarked(t, api.ErrTwice, "class A { } interface ^A { }")
	wantMarked(t, api.ErrTwice, "interface A { } interface ^A { }")
	wantMarked(t, api.ErrTwice, "class A { } class B { } class ^B { } class A { }")
	wantMarked(t, api.ErrTwice, "class A { } class B { } class C { } class ^A extends C { } class A { }")
}

// P12.2, 3: what is named isn't there, or is of the other sort.
func TestLinks(t *testing.T) {
	wantMarked(t, api.ErrNoType, "class ^A extends B { }")
	wantMarked(t, api.ErrNoType, "class ^A implements B { }")
	wantMarked(t, api.ErrNoType, "interface ^A extends B { }")
	wantMarked(t, api.ErrNoType, "interface I { } class ^A implements I, i { }")
	wantMarked(t, api.ErrKind, "interface I { } class ^A extends I { }")
	wantMarked(t, api.ErrKind, "class ^A extends I { } interface I { }")
	wantMarked(t, api.ErrKind, "class B { } class ^A implements B { }")
	wantMarked(t, api.ErrKind, "class B { } interface I { } class ^A extends B implements I, B { }")
	wantMarked(t, api.ErrKind, "class B { } interface ^I extends B { }")
	wantMarked(t, api.ErrKind, "interface I { } class B { } interface ^J extends I, B { }")
	wantMarked(t, api.ErrKind, "class ^A implements A { }")
}

// P12.2, 3: of one class what it extends comes first, then each interface; of several the first class.
func TestLinksInOrder(t *testing.T) {
	wantMarked(t, api.ErrKind, "interface I { } class ^A extends I implements B { }")
	wantMarked(t, api.ErrNoType, "class B { } class ^A extends C implements B { }")
	wantMarked(t, api.ErrKind, "class B { } class ^A extends B implements B, C { }")
	wantMarked(t, api.ErrNoType, "class B { } class ^A extends B implements C, B { }")
	wantMarked(t, api.ErrNoType, "class B { } interface ^A extends C, B { }")
	wantMarked(t, api.ErrKind, "class B { } interface ^A extends B, C { }")
	wantMarked(t, api.ErrNoType, "class ^A extends C { } class B implements A { }")
	wantMarked(t, api.ErrKind, "class B { } class ^C implements B { } class A extends D { }")
}

// P12.2, 4: cycles of one, two and more.
func TestCycles(t *testing.T) {
	wantMarked(t, api.ErrCycle, "class ^A extends A { }")
	wantMarked(t, api.ErrCycle, "interface ^I extends I { }")
	wantMarked(t, api.ErrCycle, "interface ^I extends J { } interface J extends I { }")
	wantMarked(t, api.ErrCycle, "class ^A extends B { } class B extends C { } class C extends D { } class D extends A { }")
	wantMarked(t, api.ErrCycle, "interface K { } interface ^I extends K, J { } interface J extends K, L { } interface L extends K, I { }")
	wantMarked(t, api.ErrCycle, "interface ^n000 extends n063 { } "+strings.Join(chainOf(64, "interface"), " "))
	wantMarked(t, api.ErrCycle, "class ^n000 extends n063 { } "+strings.Join(chainOf(64, "class"), " "))
	fine(t, "class n000 { } "+strings.Join(chainOf(64, "class"), " "))
	fine(t, "interface n000 { } "+strings.Join(chainOf(64, "interface"), " "))
}

// chainOf: all but the first of a chain.
func chainOf(count int, word string) []string {
	var out []string
	for i := 1; i < count; i++ {
		out = append(out, word+" "+number(i)+" extends "+number(i-1)+" { }")
	}
	return out
}

// P12.2, 4: the first class that is above itself, not one that is only below a cycle.
func TestBelowCycles(t *testing.T) {
	wantMarked(t, api.ErrCycle, "class X extends A { } class ^A extends B { } class B extends A { }")
	wantMarked(t, api.ErrCycle, "class X extends Y { } class Y extends A { } class ^A extends A { }")
	wantMarked(t, api.ErrCycle, "class X implements K { } interface K extends L, I { } interface L { } interface ^I extends J { } interface J extends I { }")
	wantMarked(t, api.ErrCycle, "class B { } class A extends B implements I { } class ^C extends C { } interface I extends I { }")
	wantMarked(t, api.ErrCycle, "class A implements I { } interface ^I extends I { } class C extends C { }")
}

// P12.2, 5: fields.
func TestFieldFaults(t *testing.T) {
	wantMarked(t, api.ErrTwice, "class A { var x: int; final ^x: bool; }")
	wantMarked(t, api.ErrTwice, "class A { var x: int; var y: int; var ^x: int; var x: int; }")
	wantMarked(t, api.ErrTwice, "class B { var x: int; } class A extends B { var y: int; var ^x: int; }")
	wantMarked(t, api.ErrTwice, "class A extends B { var ^x: int; } class B extends C { } class C { var x: int; }")
	wantMarked(t, api.ErrTwice, "class A extends B { var ^x: int; } class B { var x: int; var x: int; }")
	wantMarked(t, api.ErrNoType, "class A { var x: ^B; }")
	wantMarked(t, api.ErrNoType, "class A { var x: A; var y: ^B?{v | true}; }")
	wantMarked(t, api.ErrNoType, "class A { var x: ^B?[]?[]; }")
	wantMarked(t, api.ErrTwice, "class A { var x: int; var ^x: B; }")
	wantMarked(t, api.ErrNoType, "class A { var x: ^B; var x: int; }")
	fine(t, "class A { var x: int; } class B { var x: int; } class C extends A { var y: int; } class D extends A { var y: bool; }")
}

// P12.2, 5: ctors.
func TestCtorFaults(t *testing.T) {
	wantMarked(t, api.ErrTwice, "class A { new() { } ^new(a: int) { } }")
	wantMarked(t, api.ErrTwice, "class A { new(a: int, b: bool, ^a: bool) { } }")
	wantMarked(t, api.ErrNoType, "class A { new(a: int, b: ^B) { } }")
	wantMarked(t, api.ErrNoType, "class A { new(a: int, b: ^B[][]?{v | true}) { } }")
	wantMarked(t, api.ErrTwice, "class A { new(a: int, ^a: B) { } }")
	wantMarked(t, api.ErrNoType, "class A { new(a: ^B, a: B) { } }")
	wantMarked(t, api.ErrTwice, "class A { new() { } ^new(a: B, a: int) { } }")
	wantMarked(t, api.ErrNoType, "class A { new(a: ^B) { } new() { } }")
	fine(t, "class B { new(a: int) { } } class A extends B { new(a: int) { } }")
}

// P12.2, 5: methods.
func TestMethodFaults(t *testing.T) {
	wantMarked(t, api.ErrTwice, "class A { def f(a: int, ^a: bool): int { } }")
	wantMarked(t, api.ErrTwice, "interface A { def f(a: int, ^a: bool): int; }")
	wantMarked(t, api.ErrNoType, "class A { def f(a: ^B): int { } }")
	wantMarked(t, api.ErrNoType, "class A { def f(a: A, b: ^B[]): int { } }")
	wantMarked(t, api.ErrNoType, "class A { def f(): ^B { } }")
	wantMarked(t, api.ErrNoType, "interface A { def f(): ^B[]?; }")
	wantMarked(t, api.ErrTwice, "class A { def f(a: int): int { } def ^f(b: int): int { } }")
	wantMarked(t, api.ErrTwice, "class A { def f(a: int): int { } def ^f(b: int{v | v > 0}): bool { } }")
	wantMarked(t, api.ErrTwice, "interface I { def f(a: A?[]?): int; def g(): int; def ^f(b: A?[]): int; } class A { }")
	wantMarked(t, api.ErrTwice, "class A { def f(a: A?): A { } def f(): A { } def ^f(a: A): A { } }")
}

// P12.2, 5: a method whose result has another Base than that of a class above.
func TestOverrideFaults(t *testing.T) {
	wantMarked(t, api.ErrOverride, "class B { def f(): int { } } class A extends B { def ^f(): bool { } }")
	wantMarked(t, api.ErrOverride, "class A extends B { def ^f(): void { } } class B extends C { } class C { def f(): int { } }")
	wantMarked(t, api.ErrOverride, "class B { def f(): B { } } class A extends B { def ^f(): A { } }")
	wantMarked(t, api.ErrOverride, "class B { def f(): B[] { } } class A extends B { def ^f(): B?[] { } }")
	wantMarked(t, api.ErrOverride, "class B { def f(): int{v | v > 0}[] { } } class A extends B { def ^f(): int[] { } }")
	wantMarked(t, api.ErrOverride, "interface I { def f(): int; } class A implements I { def ^f(): bool { } }")
	wantMarked(t, api.ErrOverride, "interface I { def f(): int; } interface J extends I { } class A implements J { def ^f(): bool { } }")
	wantMarked(t, api.ErrOverride, "interface I { def f(): int; } interface J extends I { def g(): int; def ^f(): bool; }")
	wantMarked(t, api.ErrOverride, "class A extends B { def ^f(): int { } } class B implements I { def f(): int { } } interface I { def f(): bool; }")
	wantMarked(t, api.ErrOverride, "class A extends B { def ^f(): int { } } class B { def f(): int { } def f(): bool { } }")
	wantMarked(t, api.ErrOverride, "class A extends B { def ^f(): bool { } } class B { def f(): int { } def f(): bool { } }")
	fine(t, "class B { def f(a: int): int { } def f(a: bool): bool { } } class A extends B { def f(a: bool{v | v}): bool { } def f(): A { } }")
	fine(t, "class B { def f(a: B): int { } } class A extends B { def f(a: A): bool { } }")
	fine(t, "class B { def f(): int { } } class A { def f(): bool { } }")
	fine(t, "class B { def f(): B { } } class A extends B { def f(): B?{v | v != null} { } }")
}

// P12.2, 5: of one method its parameters, its result, ErrTwice, ErrOverride; of one class its fields, ctors, methods; of several classes the first.
func TestMembersInOrder(t *testing.T) {
	above := "class B { def f(a: int): int { } } "
	wantMarked(t, api.ErrNoType, above+"class A extends B { def f(a: int): int { } def f(a: ^C): C { } }")
	wantMarked(t, api.ErrNoType, above+"class A extends B { def f(a: int): int { } def f(a: int): ^C { } }")
	wantMarked(t, api.ErrTwice, above+"class A extends B { def f(a: int): int { } def ^f(a: int): bool { } }")
	wantMarked(t, api.ErrOverride, above+"class A extends B { def ^f(a: int): bool { } def g(a: C): int { } }")
	wantMarked(t, api.ErrNoType, above+"class A extends B { def g(a: ^C): int { } def f(a: int): bool { } }")
	wantMarked(t, api.ErrTwice, "class A { new() { } def f(a: int, a: int): B { } ^new() { } }")
	wantMarked(t, api.ErrNoType, "class A { new() { } new() { } def f(a: int, a: int): B { } var x: ^B; }")
	wantMarked(t, api.ErrTwice, "class A { def f(): int { } def ^f(): int { } } class B { var x: C; }")
	wantMarked(t, api.ErrOverride, "class A extends B { def ^f(): int { } } class B { def f(): C { } }")
}

// P12.2, 6: a method of an interface that is missing.
func TestMissing(t *testing.T) {
	wantMarked(t, api.ErrImplements, "interface I { def f(): int; def g(): int; } class ^A implements I { def f(): int { } }")
	wantMarked(t, api.ErrImplements, "interface I { def f(a: int): int; } class ^A implements I { def f(a: bool): int { } def f(): int { } }")
	wantMarked(t, api.ErrImplements, "class C extends A { def f(): int { } } interface J extends I { } interface I { def f(): int; } class ^A implements J { }")
	wantMarked(t, api.ErrImplements, "interface I { def f(): int; } class A implements I { def f(): int { } } class ^B implements I { }")
	wantMarked(t, api.ErrImplements, "class ^B extends A { } class A implements I { } interface I { def f(): int; }")
	wantMarked(t, api.ErrImplements, "interface I { def f(a: A?[]): int; } class ^A implements I { def f(a: A[]): int { } }")
	fine(t, "interface I { def f(): int; } interface J extends I { } class B extends C implements J { } class C extends D { } class D { def f(): int { } }")
}

// P12.2, 6: what the class has has a result of another Base, though no method that is declared overrides one of such.
func TestOverrideAtTheClass(t *testing.T) {
	wantMarked(t, api.ErrOverride, "interface I { def f(): int; } class B { def f(): bool { } } class ^A extends B implements I { }")
	wantMarked(t, api.ErrOverride, "class ^C extends A { } interface I { def f(): int; } class B { def f(): bool { } } class A extends B implements I { }")
	wantMarked(t, api.ErrOverride, "interface I { def f(): int; } interface J { def f(): bool; } interface ^K extends I, J { }")
	wantMarked(t, api.ErrOverride, "interface I { def f(): int[]; } class B { def f(): int{v | v > 0}[] { } } class ^A extends B implements I { }")
	wantMarked(t, api.ErrOverride, "interface I { def f(): int; } interface J extends I { } class B { def f(): bool { } } class ^A extends B implements J { }")
	fine(t, "interface I { def f(): int; } interface J { def f(): int{v | v > 0}; } interface K extends J, I { }")
}

// P12.2, 6: the interfaces above a class in the program's order, whatever the order in which they are named, and method by method.
func TestPromisesInOrder(t *testing.T) {
	above := "class B { def f(): bool { } } "
	other, missing := "interface I { def f(): int; } ", "interface J { def g(): int; } "
	for _, names := range []string{"I, J", "J, I"} {
		wantMarked(t, api.ErrOverride, above+other+missing+"class ^A extends B implements "+names+" { }")
		wantMarked(t, api.ErrImplements, above+missing+other+"class ^A extends B implements "+names+" { }")
		wantMarked(t, api.ErrOverride, above+"class ^A extends B implements K { } "+other+missing+"interface K extends "+names+" { }")
		wantMarked(t, api.ErrImplements, above+"class ^A extends B implements K { } "+missing+other+"interface K extends "+names+" { }")
	}
	wantMarked(t, api.ErrOverride, above+"interface I { def f(): int; def g(): int; } class ^A extends B implements I { }")
	wantMarked(t, api.ErrImplements, above+"interface I { def g(): int; def f(): int; } class ^A extends B implements I { }")
	wantMarked(t, api.ErrImplements, above+missing+other+"class ^C implements J { } class A extends B implements I { }")
	wantMarked(t, api.ErrOverride, above+missing+other+"class ^A extends B implements I { } class C implements J { }")
}
