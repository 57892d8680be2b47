package ssa_test

import "testing"

// P14.2: the chapter's example, and other bodies whose versions are written out.
func TestConvert(t *testing.T) {
	for _, c := range []struct{ statements, want string }{
		{"let x = 1; if (p) { x = 2; } print x;", "let x#0 = 1; if (p#0) { x#1 = 2; } else { } [x#2: x#1 | x#0] print x#2;"},
		{"let x = 1; if (p) { } else { x = 2; } print x;", "let x#0 = 1; if (p#0) { } else { x#1 = 2; } [x#2: x#0 | x#1] print x#2;"},
		{"let x = 1; if (p) { x = 2; x = x + 1; } else { x = 3; } print x;", "let x#0 = 1; if (p#0) { x#1 = 2; x#2 = x#1 + 1; } else { x#3 = 3; } [x#4: x#2 | x#3] print x#4;"},
		{"print i; print j + i;", "print i#0; print j#0 + i#0;"},
		{"let x = i; x = x + x; print x;", "let x#0 = i#0; x#1 = x#0 + x#0; print x#1;"},
		{"if (p) { print 1; } else { print i; }", "if (p#0) { print 1; } else { print i#0; }"},
		{"let x = 0; while (x < i) { x = x + 1; } print x;", "let x#0 = 0; while [x#1: x#0 | x#2] (x#1 < i#0) { x#2 = x#1 + 1; } print x#1;"},
		{"let x = 0; while (x < i) invariant x >= 0 invariant p { print x; } print x;", "let x#0 = 0; while (x#0 < i#0, x#0 >= 0, p#0) { print x#0; } print x#0;"},
		{"let x = 0; while (x < i) invariant x >= 0 { x = x + 1; print x; }", "let x#0 = 0; while [x#1: x#0 | x#2] (x#1 < i#0, x#1 >= 0) { x#2 = x#1 + 1; print x#2; }"},
	} {
		wantShown(t, c.statements, c.want)
	}
}

// P14.2: ifs and whiles within one another.
func TestWithin(t *testing.T) {
	wantShown(t, "let x = 0; let y = 0; while (p) { if (q) { x = 1; } else { y = 2; } } print x + y;",
		"let x#0 = 0; let y#0 = 0; while [x#1: x#0 | x#3] [y#1: y#0 | y#3] (p#0) { if (q#0) { x#2 = 1; } else { y#2 = 2; } [x#3: x#2 | x#1] [y#3: y#1 | y#2] } print x#1 + y#1;")
	wantShown(t, "let x = 0; while (p) { while (q) { x = x + 1; } print x; } print x;",
		"let x#0 = 0; while [x#1: x#0 | x#2] (p#0) { while [x#2: x#1 | x#3] (q#0) { x#3 = x#2 + 1; } print x#2; } print x#1;")
	wantShown(t, "let x = 0; if (p) { while (q) { x = 1; } } else if (q) { x = 2; } print x;",
		"let x#0 = 0; if (p#0) { while [x#1: x#0 | x#2] (q#0) { x#2 = 1; } } else { if (q#0) { x#3 = 2; } else { } [x#4: x#3 | x#0] } [x#5: x#1 | x#4] print x#5;")
	wantShown(t, "let x = 0; let y = 0; while (p) { y = 1; while (q) { x = 1; } }",
		"let x#0 = 0; let y#0 = 0; while [x#1: x#0 | x#2] [y#1: y#0 | y#2] (p#0) { y#2 = 1; while [x#2: x#1 | x#3] (q#0) { x#3 = 1; } }")
}

// P14.2: names of let are there up to the end of their block: another block makes further versions of them, and no Phi is theirs.
func TestNamesOfLet(t *testing.T) {
	wantShown(t, "if (p) { let x = 1; x = 2; } else { let x = 3; print x; } let x = 4; print x;",
		"if (p#0) { let x#0 = 1; x#1 = 2; } else { let x#2 = 3; print x#2; } let x#3 = 4; print x#3;")
	wantShown(t, "while (p) { let x = i; x = x + 1; print x; } let x = 1; while (q) { x = x; }",
		"while (p#0) { let x#0 = i#0; x#1 = x#0 + 1; print x#1; } let x#2 = 1; while [x#3: x#2 | x#4] (q#0) { x#4 = x#3; }")
	wantShown(t, "while (p) { let x = i; while (q) { x = x + 1; } print x; }",
		"while (p#0) { let x#0 = i#0; while [x#1: x#0 | x#2] (q#0) { x#2 = x#1 + 1; } print x#1; }")
	wantShown(t, "while (p) { let x = i; if (q) { x = x + 1; } print x; }",
		"while (p#0) { let x#0 = i#0; if (q#0) { x#1 = x#0 + 1; } else { } [x#2: x#1 | x#0] print x#2; }")
	wantShown(t, "while (p) { while (q) { let x = 1; while (p) { x = 2; } } let x = 5; while (q) { x = 6; } } let x = 7; x = 8;",
		"while (p#0) { while (q#0) { let x#0 = 1; while [x#1: x#0 | x#2] (p#0) { x#2 = 2; } } let x#3 = 5; while [x#4: x#3 | x#5] (q#0) { x#5 = 6; } } let x#6 = 7; x#7 = 8;")
	wantShown(t, "if (p) { let y = 1; if (q) { y = 2; } } if (p) { let y = 3; while (q) { y = 4; } }",
		"if (p#0) { let y#0 = 1; if (q#0) { y#1 = 2; } else { } [y#2: y#1 | y#0] } else { } if (p#0) { let y#3 = 3; while [y#4: y#3 | y#5] (q#0) { y#5 = 4; } } else { }")
}

// P14.2: behind an end that isn't reached: what the other one has counts, without a Phi.
func TestReturns(t *testing.T) {
	wantShown(t, "let x = 1; if (p) { x = 2; return x; } print x;", "let x#0 = 1; if (p#0) { x#1 = 2; return x#1; } else { } print x#0;")
	wantShown(t, "let x = 1; if (p) { x = 2; } else { x = 3; return x; } print x;", "let x#0 = 1; if (p#0) { x#1 = 2; } else { x#2 = 3; return x#2; } print x#1;")
	wantShown(t, "let x = 1; if (p) { x = 3; return x; } else { x = 2; } print x;", "let x#0 = 1; if (p#0) { x#1 = 3; return x#1; } else { x#2 = 2; } print x#2;")
	wantShown(t, "let x = 1; if (p) { if (q) { x = 2; return 0; } else { x = 3; return 0; } } else { x = 4; } print x;",
		"let x#0 = 1; if (p#0) { if (q#0) { x#1 = 2; return 0; } else { x#2 = 3; return 0; } } else { x#3 = 4; } print x#3;")
	wantShown(t, "let x = 1; if (p) { if (q) { x = 2; return 0; } x = 3; } print x;",
		"let x#0 = 1; if (p#0) { if (q#0) { x#1 = 2; return 0; } else { } x#2 = 3; } else { } [x#3: x#2 | x#0] print x#3;")
	wantShown(t, "let x = 1; if (p) { if (q) { return 0; } else { x = 3; } } else { x = 2; } print x;",
		"let x#0 = 1; if (p#0) { if (q#0) { return 0; } else { x#1 = 3; } } else { x#2 = 2; } [x#3: x#1 | x#2] print x#3;")
}

// P14.2: whiles from whose body's end no way leads back, or only some.
func TestLoopsThatReturn(t *testing.T) {
	wantShown(t, "let x = 1; while (p) { x = 2; return x; } print x;", "let x#0 = 1; while [x#1: x#0 | ] (p#0) { x#2 = 2; return x#2; } print x#1;")
	wantShown(t, "let x = 1; while (p) { return x; x = 2; } print x;", "let x#0 = 1; while [x#1: x#0 | ] (p#0) { return x#1; x#2 = 2; } print x#1;")
	wantShown(t, "let x = 1; while (p) { if (q) { x = 2; return x; } } print x;", "let x#0 = 1; while [x#1: x#0 | x#1] (p#0) { if (q#0) { x#2 = 2; return x#2; } else { } } print x#1;")
	wantShown(t, "let x = 1; while (p) { if (q) { x = 2; return x; } else { return 1; } } print x;", "let x#0 = 1; while [x#1: x#0 | ] (p#0) { if (q#0) { x#2 = 2; return x#2; } else { return 1; } } print x#1;")
	wantShown(t, "let x = 1; while (p) { x = 2; while (q) { x = 3; return x; } } print x;",
		"let x#0 = 1; while [x#1: x#0 | x#3] (p#0) { x#2 = 2; while [x#3: x#2 | ] (q#0) { x#4 = 3; return x#4; } } print x#1;")
	wantShown(t, "while (p) { return i; } print i;", "while (p#0) { return i#0; } print i#0;")
}

// P14.2: behind an if of two returns, and behind a return, no end is reached any more: no if there has Phis, and no while's Right is any.
func TestNotReached(t *testing.T) {
	for _, head := range []string{"if (p) { x = 1; return 1; } else { x = 2; return 2; }", "return 1;", "if (p) { return 1; } else if (q) { return 2; } else { return 3; }"} {
		b := of(t, "let x = 0; let y = 0; "+head+" print x; if (p) { x = 3; } else { y = 4; } print x + y; while (q) { x = 5; if (p) { y = 6; } } x = 7; let z = x; z = z + 1; print z;")
		got := b.converted()
		wantRight(t, b, got)
		if phis := got[4].Phis; len(phis) > 0 {
			t.Errorf("behind %s an if has %v", head, phis)
		}
		if phis := got[6].Phis; len(phis) != 2 || phis[0].Right != "" || phis[1].Right != "" {
			t.Errorf("behind %s a while has %v", head, phis)
		}
	}
	b := of(t, "let x = 0; while (p) { if (q) { return 1; if (p) { x = 1; } print x; } x = x + 1; } print x;")
	wantRight(t, b, b.converted())
}

// P14.2: Phis stand in the order of their Names' bytes, whatever the order of the lets and sets.
func TestOrderOfPhis(t *testing.T) {
	lets := "let b = 0; let a10 = 0; let a1 = 0; let a9 = 0; let B = 0; let _a = 0; let ab = 0; "
	sets := "b = 1; ab = 2; a10 = 3; B = 4; a9 = 5; a1 = 6; _a = 7;"
	want := []string{"B", "_a", "a1", "a10", "a9", "ab", "b"}
	for range 20 {
		got := of(t, lets+"if (p) { "+sets+" } if (p) { } else { "+sets+" } if (p) { a1 = 1; B = 2; _a = 1; a9 = 2; } else { b = 1; a10 = 1; ab = 2; } while (p) { "+sets+" }").converted()
		for _, s := range got[7:11] {
			for i, phi := range s.Phis {
				if len(s.Phis) != len(want) || phi.Name != want[i] {
					t.Fatalf("%s has the Phis %v", s.Kind, s.Phis)
				}
			}
			if len(s.Phis) != len(want) {
				t.Fatalf("%s has the Phis %v", s.Kind, s.Phis)
			}
		}
	}
}

// P14.2: bodies of ctors, of methods without parameters, and main; a parameter that is named as another method's let; statements of each kind.
func TestBodies(t *testing.T) {
	all := bodies(t, `class A {
	final n: int; var m: int; var l: int[];
	new(k: int, x: int) { let y = k; this.n = y; if (y > x) { y = x; } this.m = y; this.l = list int(2, y); }
	def f(): int { let k = this.n; k = k + this.m; return k; }
	def g(k: int): void { let x = this; x.m = k; this.l[k] = x.m; x = this; x.l[x.n] = k; x.g(x.m); assert k > x.n; print len(x.l) + x.l[k]; return; }
	def h(): void { }
}
main { let k = new A(1, read()); k.g(2); k = new A(k.f(), k.n); print k.m; }`)
	if len(all) != 5 {
		t.Fatalf("%d bodies", len(all))
	}
	want := []string{
		"let y#0 = k#0; field n this, y#0; if (y#0 > x#0) { y#1 = x#0; } else { } [y#2: y#1 | y#0] field m this, y#2; field l this, list int(2, y#2);",
		"let k#0 = this.n; k#1 = k#0 + this.m; return k#1;",
		"let x#0 = this; field m x#0, k#0; elem this.l, k#0, x#0.m; x#1 = this; elem x#1.l, x#1.n, k#0; do x#1.g(int)(x#1.m); assert k#0 > x#1.n; print len(x#1.l) + x#1.l[k#0]; return;",
		"",
		"let k#0 = new A(1, read()); do k#0.g(int)(2); k#1 = new A(k#0.f()(), k#0.n); print k#1.m;",
	}
	for i, b := range all {
		got := b.converted()
		wantRight(t, b, got)
		if shown(got) != want[i] {
			t.Errorf("Convert of body %d:\n%s; want\n%s", i, shown(got), want[i])
		}
	}
}
