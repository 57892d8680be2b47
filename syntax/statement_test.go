package syntax_test

import (
	"reflect"
	"strings"
	"testing"

	"surety/api"
)

// P11.2: statements that begin with a word and have no block.
func TestWordStatements(t *testing.T) {
	wantMain(t, "^let x = ^1;", func(at []int) []api.Stmt {
		return []api.Stmt{{Kind: "let", Name: "x", Exprs: one(num("1", at[1])), At: at[0]}}
	})
	wantMain(t, "^let x: ^int = ^1;", func(at []int) []api.Stmt {
		return []api.Stmt{{Kind: "let", Name: "x", Type: []api.Type{intType(at[1])}, Exprs: one(num("1", at[2])), At: at[0]}}
	})
	wantMain(t, "^let x: ^int{v | ^v ^== ^1}=^1;", func(at []int) []api.Stmt {
		withPred := api.Type{Kind: api.Int, Pred: one(made("==", at[3], name("v", at[2]), num("1", at[4]))), At: at[1]}
		return []api.Stmt{{Kind: "let", Name: "x", Type: []api.Type{withPred}, Exprs: one(num("1", at[5])), At: at[0]}}
	})
	wantMain(t, "^return; ^return ^x; ^assert ^true; ^print ^7;", func(at []int) []api.Stmt {
		return []api.Stmt{
			{Kind: "return", At: at[0]},
			{Kind: "return", Exprs: one(name("x", at[2])), At: at[1]},
			{Kind: "assert", Exprs: one(word("true", at[4])), At: at[3]},
			{Kind: "print", Exprs: one(num("7", at[6])), At: at[5]},
		}
	})
}

// P11.2: an expression alone is a do, whatever it is; its place is its first token's.
func TestDo(t *testing.T) {
	do := func(e api.Expr, at int) []api.Stmt { return []api.Stmt{{Kind: "do", Exprs: one(e), At: at}} }
	wantMain(t, "^x;", func(at []int) []api.Stmt { return do(name("x", at[0]), at[0]) })
	wantMain(t, "^7;", func(at []int) []api.Stmt { return do(num("7", at[0]), at[0]) })
	wantMain(t, "^(^x);", func(at []int) []api.Stmt { return do(name("x", at[1]), at[0]) })
	wantMain(t, "^x.^f(^1);", func(at []int) []api.Stmt {
		return do(api.Expr{Op: "call", Name: "f", Args: []api.Expr{name("x", at[0]), num("1", at[2])}, At: at[1]}, at[0])
	})
	wantMain(t, "^a ^+ ^b;", func(at []int) []api.Stmt {
		return do(made("+", at[1], name("a", at[0]), name("b", at[2])), at[0])
	})
	wantMain(t, "^-^x;", func(at []int) []api.Stmt { return do(made("neg", at[0], name("x", at[1])), at[0]) })
	wantMain(t, "^a ^== ^b;", func(at []int) []api.Stmt {
		return do(made("==", at[1], name("a", at[0]), name("b", at[2])), at[0])
	})
	for _, s := range []string{"this", "null", "true", "false", "new A()", "list int(1, 2)", "len(a)", "read()", "!x", "a[0]", "a.b"} {
		got := program(t, "main { "+s+"; }").Main
		if len(got) != 1 || got[0].Kind != "do" || got[0].At != 7 || len(got[0].Exprs) != 1 {
			t.Errorf("%s: %+v", s, got)
		}
	}
}

// P11.2: = behind a var, a field, an index; the statement's place is its first token's.
func TestAssignments(t *testing.T) {
	wantMain(t, "^x = ^1;", func(at []int) []api.Stmt {
		return []api.Stmt{{Kind: "set", Name: "x", Exprs: one(num("1", at[1])), At: at[0]}}
	})
	wantMain(t, "^x.y = ^1;", func(at []int) []api.Stmt {
		return []api.Stmt{{Kind: "field", Name: "y", Exprs: []api.Expr{name("x", at[0]), num("1", at[1])}, At: at[0]}}
	})
	wantMain(t, "^this.^x.y = ^1;", func(at []int) []api.Stmt {
		object := api.Expr{Op: "field", Name: "x", Args: one(word("this", at[0])), At: at[1]}
		return []api.Stmt{{Kind: "field", Name: "y", Exprs: []api.Expr{object, num("1", at[2])}, At: at[0]}}
	})
	wantMain(t, "^x[^y] = ^1;", func(at []int) []api.Stmt {
		return []api.Stmt{{Kind: "elem", Exprs: []api.Expr{name("x", at[0]), name("y", at[1]), num("1", at[2])}, At: at[0]}}
	})
	wantMain(t, "^x.^f()[^y ^+ ^2] = ^z;", func(at []int) []api.Stmt {
		call := api.Expr{Op: "call", Name: "f", Args: one(name("x", at[0])), At: at[1]}
		return []api.Stmt{{Kind: "elem", Exprs: []api.Expr{call, made("+", at[3], name("y", at[2]), num("2", at[4])), name("z", at[5])}, At: at[0]}}
	})
}

// P11.2: what stands in brackets ahead of = is what it is without them.
func TestAssignmentsInBrackets(t *testing.T) {
	wantMain(t, "^(x) = ^1;", func(at []int) []api.Stmt {
		return []api.Stmt{{Kind: "set", Name: "x", Exprs: one(num("1", at[1])), At: at[0]}}
	})
	wantMain(t, "^((^x.y)) = ^1;", func(at []int) []api.Stmt {
		return []api.Stmt{{Kind: "field", Name: "y", Exprs: []api.Expr{name("x", at[1]), num("1", at[2])}, At: at[0]}}
	})
	wantMain(t, "^(^-^x)[^0] = ^1;", func(at []int) []api.Stmt {
		return []api.Stmt{{Kind: "elem", Exprs: []api.Expr{made("neg", at[1], name("x", at[2])), num("0", at[3]), num("1", at[4])}, At: at[0]}}
	})
}

// P11.2: = behind any other expression is at fault.
func TestNoAssignment(t *testing.T) {
	for _, s := range []string{"7", "true", "false", "null", "this", "x.f()", "x.y(1, 2)", "new A()", "new A().f()", "list int(1, 2)", "len(a)", "read()", "-x", "!x", "-x.y", "!a[0]", "a + b", "a + b.c", "a == b", "a < b[0]", "a => b", "a && b", "a || b", "a * b", "(a + b)", "(x.f())"} {
		wantMarked(t, api.ErrSyntax, "main { "+s+" ^= 1; }")
		wantMarked(t, api.ErrSyntax, "main { "+s+" ^= ) }")
		bare(t, "main { "+s+"; }")
	}
	wantMarked(t, api.ErrSyntax, "main { x = y ^= 1; }")
	wantMarked(t, api.ErrSyntax, "main { x = (y ^= 1); }")
	wantMarked(t, api.ErrSyntax, "main { print x ^= 1; }")
	wantMarked(t, api.ErrSyntax, "main { (x ^= 1); }")
}

// P11.2: if, with and without else, and chains of them.
func TestIf(t *testing.T) {
	wantMain(t, "^if (^a) { }", func(at []int) []api.Stmt {
		return []api.Stmt{{Kind: "if", Exprs: one(name("a", at[1])), At: at[0]}}
	})
	wantMain(t, "^if (^a) { ^x; } else { ^y; ^z; }", func(at []int) []api.Stmt {
		return []api.Stmt{{Kind: "if", Exprs: one(name("a", at[1])), At: at[0],
			Body: []api.Stmt{{Kind: "do", Exprs: one(name("x", at[2])), At: at[2]}},
			Else: []api.Stmt{{Kind: "do", Exprs: one(name("y", at[3])), At: at[3]}, {Kind: "do", Exprs: one(name("z", at[4])), At: at[4]}}}}
	})
	chain := func(at []int) []api.Stmt {
		third := api.Stmt{Kind: "if", Exprs: one(name("c", at[5])), At: at[4], Else: []api.Stmt{{Kind: "return", At: at[6]}}}
		second := api.Stmt{Kind: "if", Exprs: one(name("b", at[3])), At: at[2], Else: []api.Stmt{third}}
		return []api.Stmt{{Kind: "if", Exprs: one(name("a", at[1])), At: at[0], Else: []api.Stmt{second}}}
	}
	wantMain(t, "^if (^a) { } else ^if (^b) { } else ^if (^c) { } else { ^return; }", chain)
	wantMain(t, "^if (^a) { } else { ^if (^b) { } else { ^if (^c) { } else { ^return; } } }", chain)
	wantMain(t, "^if (^a) { } else { }", func(at []int) []api.Stmt {
		return []api.Stmt{{Kind: "if", Exprs: one(name("a", at[1])), At: at[0]}}
	})
	wantMain(t, "^if (^a) { ^if (^b) { } else { ^c; } } ^d;", func(at []int) []api.Stmt {
		inner := api.Stmt{Kind: "if", Exprs: one(name("b", at[3])), At: at[2], Else: []api.Stmt{{Kind: "do", Exprs: one(name("c", at[4])), At: at[4]}}}
		return []api.Stmt{{Kind: "if", Exprs: one(name("a", at[1])), At: at[0], Body: []api.Stmt{inner}}, {Kind: "do", Exprs: one(name("d", at[5])), At: at[5]}}
	})
}

// P11.2: an else whose block is an if and something more isn't that if alone.
func TestElseBlocks(t *testing.T) {
	for _, s := range []string{"if (b) { } x;", "x; if (b) { }", "if (b) { } if (c) { }", "while (b) { }"} {
		got := bare(t, "main { if (a) { } else { "+s+" } }").Main[0].Else
		if want := bare(t, "main { "+s+" }").Main; !reflect.DeepEqual(got, want) {
			t.Errorf("else { %s }: %+v", s, got)
		}
	}
}

// P11.2: while, with no invariant, one and several.
func TestWhile(t *testing.T) {
	wantMain(t, "^while (^a) { }", func(at []int) []api.Stmt {
		return []api.Stmt{{Kind: "while", Exprs: one(name("a", at[1])), At: at[0]}}
	})
	wantMain(t, "^while (^a) invariant ^b { ^c; }", func(at []int) []api.Stmt {
		return []api.Stmt{{Kind: "while", Exprs: []api.Expr{name("a", at[1]), name("b", at[2])}, At: at[0], Body: []api.Stmt{{Kind: "do", Exprs: one(name("c", at[3])), At: at[3]}}}}
	})
	wantMain(t, "^while (^a) invariant ^b invariant ^c ^=> ^d invariant ^true { }", func(at []int) []api.Stmt {
		return []api.Stmt{{Kind: "while", Exprs: []api.Expr{name("a", at[1]), name("b", at[2]), made("=>", at[4], name("c", at[3]), name("d", at[5])), word("true", at[6])}, At: at[0]}}
	})
}

// P11.2: many statements stay in their order.
func TestManyStatements(t *testing.T) {
	const count = 5000
	list := program(t, "main {"+strings.Repeat("return;", count)+"}").Main
	if len(list) != count {
		t.Fatalf("%d statements", len(list))
	}
	for i, s := range list {
		if s.Kind != "return" || s.At != 6+7*i {
			t.Fatalf("statement %d: %+v", i, s)
		}
	}
}
