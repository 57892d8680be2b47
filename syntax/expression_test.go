package syntax_test

import (
	"reflect"
	"strings"
	"testing"

	"surety/api"
)

// levels: the signs between operands, the weakest first, as the chapter lists them.
var levels = [][]string{{"=>"}, {"||"}, {"&&"}, {"==", "!=", "<", "<=", ">", ">="}, {"+", "-"}, {"*", "/", "%"}}

// comparisons is the place of the comparisons in levels.
const comparisons = 3

// P11.3: what is one token or a word's own form.
func TestPrimaries(t *testing.T) {
	wantExpr(t, "^7", func(at []int) api.Expr { return num("7", at[0]) })
	wantExpr(t, "^0", func(at []int) api.Expr { return num("0", at[0]) })
	long := strings.Repeat("9", 300)
	wantExpr(t, "^"+long, func(at []int) api.Expr { return num(long, at[0]) })
	for _, op := range []string{"true", "false", "null", "this"} {
		wantExpr(t, "^"+op, func(at []int) api.Expr { return word(op, at[0]) })
	}
	for _, s := range []string{"x", "v", "_", "mains", strings.Repeat("w", 40)} {
		wantExpr(t, "^"+s, func(at []int) api.Expr { return name(s, at[0]) })
	}
	wantExpr(t, "^new A()", func(at []int) api.Expr { return api.Expr{Op: "new", Name: "A", At: at[0]} })
	wantExpr(t, "^new A(^1, ^x)", func(at []int) api.Expr {
		return api.Expr{Op: "new", Name: "A", Args: []api.Expr{num("1", at[1]), name("x", at[2])}, At: at[0]}
	})
	wantExpr(t, "^len(^a)", func(at []int) api.Expr { return made("len", at[0], name("a", at[1])) })
	wantExpr(t, "^read()", func(at []int) api.Expr { return word("read", at[0]) })
	wantExpr(t, "^list ^int(^3, ^x)", func(at []int) api.Expr {
		return api.Expr{Op: "list", Type: []api.Type{intType(at[1])}, Args: []api.Expr{num("3", at[2]), name("x", at[3])}, At: at[0]}
	})
	wantExpr(t, "^list ^A?^[]{v | ^true}(^3, ^null)", func(at []int) api.Expr {
		elem := listType(api.Type{Kind: api.Ref, Name: "A", Null: true, At: at[1]}, at[2])
		elem.Pred = one(word("true", at[3]))
		return api.Expr{Op: "list", Type: []api.Type{elem}, Args: []api.Expr{num("3", at[4]), word("null", at[5])}, At: at[0]}
	})
	wantExpr(t, "((^x))", func(at []int) api.Expr { return name("x", at[0]) })
}

// P11.3: fields, calls and indexes, behind one another and behind each primary.
func TestBehindPrimaries(t *testing.T) {
	field := func(name string, at int, of api.Expr) api.Expr {
		return api.Expr{Op: "field", Name: name, Args: one(of), At: at}
	}
	wantExpr(t, "^x.^y", func(at []int) api.Expr { return field("y", at[1], name("x", at[0])) })
	wantExpr(t, "^x.^y.^z", func(at []int) api.Expr { return field("z", at[2], field("y", at[1], name("x", at[0]))) })
	wantExpr(t, "^x.^f()", func(at []int) api.Expr {
		return api.Expr{Op: "call", Name: "f", Args: one(name("x", at[0])), At: at[1]}
	})
	wantExpr(t, "^x.^f(^1, ^y)", func(at []int) api.Expr {
		return api.Expr{Op: "call", Name: "f", Args: []api.Expr{name("x", at[0]), num("1", at[2]), name("y", at[3])}, At: at[1]}
	})
	wantExpr(t, "^x^[^1]^[^2]", func(at []int) api.Expr {
		return made("index", at[3], made("index", at[1], name("x", at[0]), num("1", at[2])), num("2", at[4]))
	})
	wantExpr(t, "^x.^f(^1)^[^2].^y.^g()", func(at []int) api.Expr {
		call := api.Expr{Op: "call", Name: "f", Args: []api.Expr{name("x", at[0]), num("1", at[2])}, At: at[1]}
		inner := field("y", at[5], made("index", at[3], call, num("2", at[4])))
		return api.Expr{Op: "call", Name: "g", Args: one(inner), At: at[6]}
	})
	for _, s := range []string{"7", "true", "null", "this", "new A()", "list int(1, 2)", "len(a)", "read()", "(a + b)"} {
		for _, behind := range []string{".f", ".f()", "[0]"} {
			got := expr(t, s+behind)
			if !reflect.DeepEqual(got.Args[0], expr(t, s)) {
				t.Errorf("%s%s: %+v", s, behind, got)
			}
		}
	}
}

// P11.3: - and ! ahead of an operand, alone and behind one another.
func TestPrefixes(t *testing.T) {
	wantExpr(t, "^-^x", func(at []int) api.Expr { return made("neg", at[0], name("x", at[1])) })
	wantExpr(t, "^!^x", func(at []int) api.Expr { return made("not", at[0], name("x", at[1])) })
	wantExpr(t, "^-^7", func(at []int) api.Expr { return made("neg", at[0], num("7", at[1])) })
	wantExpr(t, "^-^-^x", func(at []int) api.Expr { return made("neg", at[0], made("neg", at[1], name("x", at[2]))) })
	wantExpr(t, "^!^-^!^x", func(at []int) api.Expr {
		return made("not", at[0], made("neg", at[1], made("not", at[2], name("x", at[3]))))
	})
	wantSame(t, "-x.y", "-(x.y)")
	wantSame(t, "-x[0].f(1)", "-(x[0].f(1))")
	wantSame(t, "--x", "-(-(x))")
	wantSame(t, "a - -b", "a - (-b)")
	wantSame(t, "a--b", "a - (-b)")
	wantSame(t, "-a - -b", "(-a) - (-b)")
	wantSame(t, "!a == !b", "(!a) == (!b)")
	wantSame(t, "-a * -b", "(-a) * (-b)")
	wantSame(t, "!-a", "!(-a)")
	wantExpr(t, "(^-^x).^y", func(at []int) api.Expr {
		return api.Expr{Op: "field", Name: "y", Args: one(made("neg", at[0], name("x", at[1]))), At: at[2]}
	})
	for _, signs := range levels {
		for _, sign := range signs {
			wantSame(t, "-a "+sign+" !b", "(-a) "+sign+" (!b)")
		}
	}
}

// P11.3: each sign between two operands, with its place.
func TestSigns(t *testing.T) {
	for _, signs := range levels {
		for _, sign := range signs {
			wantExpr(t, "^a ^"+sign+" ^b", func(at []int) api.Expr { return made(sign, at[1], name("a", at[0]), name("b", at[2])) })
			wantExpr(t, "((^a)^"+sign+"(^b))", func(at []int) api.Expr { return made(sign, at[1], name("a", at[0]), name("b", at[2])) })
		}
	}
}

// P11.3: each pair of signs beside each other, without brackets and with them.
func TestPairsOfSigns(t *testing.T) {
	for i, first := range levels {
		for j, second := range levels {
			for _, a := range first {
				for _, b := range second {
					pair(t, i, j, a, b)
				}
			}
		}
	}
}

func pair(t *testing.T, i, j int, a, b string) {
	t.Helper()
	plain := "x " + a + " y " + b + " z"
	left, right := "(x "+a+" y) "+b+" z", "x "+a+" (y "+b+" z)"
	if reflect.DeepEqual(expr(t, left), expr(t, right)) {
		t.Errorf("%s is read as %s", left, right)
	}
	switch {
	case i == comparisons && j == comparisons:
		wantMarked(t, api.ErrSyntax, "main { print x "+a+" y ^"+b+" z; }")
		wantText(t, left, left)
		wantText(t, right, right)
	case i > j || i == j && i != 0:
		wantSame(t, plain, left)
		wantText(t, left, plain)
		wantText(t, right, right)
	default:
		wantSame(t, plain, right)
		wantText(t, right, plain)
		wantText(t, left, left)
	}
}

// P11.3: of several alike => the last first, of others the first first.
func TestChains(t *testing.T) {
	wantSame(t, "a => b => c => d", "a => (b => (c => d))")
	wantSame(t, "a || b || c || d", "((a || b) || c) || d")
	wantSame(t, "a && b && c && d", "((a && b) && c) && d")
	wantSame(t, "a - b + c - d", "((a - b) + c) - d")
	wantSame(t, "a / b * c % d", "((a / b) * c) % d")
	wantSame(t, "a + b * c - d / e", "(a + (b * c)) - (d / e)")
	wantSame(t, "a < b && c == d || e => f", "(((a < b) && (c == d)) || e) => f")
	wantSame(t, "a => b || c && d < e + f * -g", "a => (b || (c && (d < (e + (f * (-g))))))")
	wantSame(t, "a * b + c > d && e || f => g", "(((((a * b) + c) > d) && e) || f) => g")
	wantSame(t, "a => b && c => d || e", "a => ((b && c) => (d || e))")
}

// P11.3: two comparisons need brackets, wherever they stand.
func TestTwoComparisons(t *testing.T) {
	wantMarked(t, api.ErrSyntax, "main { print a == b ^== c; }")
	wantMarked(t, api.ErrSyntax, "main { print a + 1 < b * 2 ^< c; }")
	wantMarked(t, api.ErrSyntax, "main { print x && a < b ^>= c && y; }")
	wantMarked(t, api.ErrSyntax, "main { print (a < b ^< c); }")
	wantMarked(t, api.ErrSyntax, "main { f[a < b ^!= c] = 1; }")
	bare(t, "main { print (a < b) == (c < d); print a < (b < c); print a < b && c < d => e < f; }")
}

// P11.3: long chains are one expression, however many operands they have.
func TestLongChains(t *testing.T) {
	const count = 10000
	for _, sign := range []string{"=>", "||", "&&", "+", "*"} {
		e := expr(t, "x"+strings.Repeat(sign+"x", count))
		deep := 0
		for ; e.Op == sign; deep++ {
			side := 0
			if sign == "=>" {
				side = 1
			}
			e = e.Args[side]
		}
		if deep != count || e.Op != "var" {
			t.Errorf("%s: %d deep, then %s", sign, deep, e.Op)
		}
	}
	e := expr(t, "x"+strings.Repeat(".f()[0].g", 5000))
	for deep := range 15000 {
		if want := []string{"field", "index", "call"}[deep%3]; e.Op != want {
			t.Fatalf("%d deep: %s", deep, e.Op)
		}
		e = e.Args[0]
	}
	elem := typ(t, "int"+strings.Repeat("[]?", 15000))
	for deep := range 15000 {
		if elem.Kind != api.List || !elem.Null {
			t.Fatalf("%d deep: %+v", deep, elem.Kind)
		}
		elem = elem.Elem[0]
	}
}
