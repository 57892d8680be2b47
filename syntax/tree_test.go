package syntax_test

import (
	"testing"

	"surety/api"
)

func num(name string, at int) api.Expr { return api.Expr{Op: "num", Name: name, At: at} }

func name(name string, at int) api.Expr { return api.Expr{Op: "var", Name: name, At: at} }

func word(op string, at int) api.Expr { return api.Expr{Op: op, At: at} }

func made(op string, at int, args ...api.Expr) api.Expr {
	return api.Expr{Op: op, Args: args, At: at}
}

func one(e api.Expr) []api.Expr { return []api.Expr{e} }

func intType(at int) api.Type { return api.Type{Kind: api.Int, At: at} }

func boolType(at int) api.Type { return api.Type{Kind: api.Bool, At: at} }

func listType(elem api.Type, at int) api.Type {
	return api.Type{Kind: api.List, Elem: []api.Type{elem}, At: at}
}

// wantMain: the marked text of main's statements is read as these, made of the marks' places.
func wantMain(t *testing.T, s string, want func(at []int) []api.Stmt) {
	t.Helper()
	text, at := marked("main { " + s + " }")
	wantTree(t, text, api.Program{Main: want(at)})
}

// wantExpr: the marked text of an expression is read as this one.
func wantExpr(t *testing.T, s string, want func(at []int) api.Expr) {
	t.Helper()
	wantMain(t, "^print "+s+";", func(at []int) []api.Stmt {
		return []api.Stmt{{Kind: "print", Exprs: one(want(at[1:])), At: at[0]}}
	})
}

// wantType: the marked text of a type is read as this one.
func wantType(t *testing.T, s string, want func(at []int) api.Type) {
	t.Helper()
	wantMain(t, "^let x: "+s+" = ^1;", func(at []int) []api.Stmt {
		last := len(at) - 1
		return []api.Stmt{{Kind: "let", Name: "x", Type: []api.Type{want(at[1:last])}, Exprs: one(num("1", at[last])), At: at[0]}}
	})
	text, at := marked("class ^A { var ^x: " + s + "; } main { }")
	wantTree(t, text, api.Program{Classes: []api.Class{{Name: "A", At: at[0], Fields: []api.Field{{Name: "x", Type: want(at[2:]), At: at[1]}}}}})
}

// P11.1: main alone, and what stands around it.
func TestMainAlone(t *testing.T) {
	for _, s := range []string{"main{}", "main { }", " main\n{\t}\r\n", "// first\nmain // second\n{ // third\n} // fourth"} {
		wantTree(t, s, api.Program{})
	}
}

// P11.1: classes, with and without what they extend and implement.
func TestClassHeads(t *testing.T) {
	text, at := marked("class ^A { } class ^B extends A { } class ^C implements I { } class ^D extends A implements I, J, K { } main { }")
	wantTree(t, text, api.Program{Classes: []api.Class{
		{Name: "A", At: at[0]},
		{Name: "B", Super: "A", At: at[1]},
		{Name: "C", Above: []string{"I"}, At: at[2]},
		{Name: "D", Super: "A", Above: []string{"I", "J", "K"}, At: at[3]},
	}})
}

// P11.1: interfaces; what they extend is Above, and their methods are abstract.
func TestInterfaces(t *testing.T) {
	text, at := marked("interface ^I { } interface ^J extends I { def ^f(): ^void; } interface ^K extends I, J, L { def ^g(^a: ^int, ^b: ^bool): ^I?; def ^f(): ^int; } main { }")
	wantTree(t, text, api.Program{Classes: []api.Class{
		{Name: "I", Iface: true, At: at[0]},
		{Name: "J", Iface: true, Above: []string{"I"}, At: at[1], Meths: []api.Method{{Name: "f", Abstract: true, At: at[2], Result: api.Type{At: at[3]}}}},
		{Name: "K", Iface: true, Above: []string{"I", "J", "L"}, At: at[4], Meths: []api.Method{
			{Name: "g", Abstract: true, At: at[5], Params: []api.Param{{Name: "a", Type: intType(at[7]), At: at[6]}, {Name: "b", Type: boolType(at[9]), At: at[8]}}, Result: api.Type{Kind: api.Ref, Name: "I", Null: true, At: at[10]}},
			{Name: "f", Abstract: true, At: at[11], Result: intType(at[12])},
		}},
	}})
}

// P11.1: several members of each sort in mixed order; those of one sort stay in theirs.
func TestMembers(t *testing.T) {
	text, at := marked("class ^A { def ^g(): ^int { } var ^x: ^int; invariant ^true; ^new() { } final ^y: ^bool; def ^f(^a: ^int): ^void { } invariant ^false; ^new(^b: ^A) { } var ^z: ^A?; def ^g(): ^A { } } main { }")
	wantTree(t, text, api.Program{Classes: []api.Class{{
		Name: "A", At: at[0],
		Fields: []api.Field{
			{Name: "x", Type: intType(at[4]), At: at[3]},
			{Name: "y", Type: boolType(at[8]), Final: true, At: at[7]},
			{Name: "z", Type: api.Type{Kind: api.Ref, Name: "A", Null: true, At: at[18]}, At: at[17]},
		},
		Invs:  []api.Expr{word("true", at[5]), word("false", at[13])},
		Ctors: []api.Ctor{{At: at[6]}, {Params: []api.Param{{Name: "b", Type: api.Type{Kind: api.Ref, Name: "A", At: at[16]}, At: at[15]}}, At: at[14]}},
		Meths: []api.Method{
			{Name: "g", Result: intType(at[2]), At: at[1]},
			{Name: "f", Params: []api.Param{{Name: "a", Type: intType(at[11]), At: at[10]}}, Result: api.Type{At: at[12]}, At: at[9]},
			{Name: "g", Result: api.Type{Kind: api.Ref, Name: "A", At: at[20]}, At: at[19]},
		},
	}}})
}

// P11.1: a ctor without super, with super() and with super's arguments.
func TestCtors(t *testing.T) {
	text, at := marked("class ^A { ^new() { ^return; } ^new() super() { } ^new(^a: ^int, ^b: ^int) super(^a, ^1 ^+ ^b) { ^a = ^2; } } main { }")
	wantTree(t, text, api.Program{Classes: []api.Class{{Name: "A", At: at[0], Ctors: []api.Ctor{
		{Body: []api.Stmt{{Kind: "return", At: at[2]}}, At: at[1]},
		{HasSuper: true, At: at[3]},
		{
			Params:   []api.Param{{Name: "a", Type: intType(at[6]), At: at[5]}, {Name: "b", Type: intType(at[8]), At: at[7]}},
			HasSuper: true,
			Super:    []api.Expr{name("a", at[9]), made("+", at[11], num("1", at[10]), name("b", at[12]))},
			Body:     []api.Stmt{{Kind: "set", Name: "a", Exprs: one(num("2", at[14])), At: at[13]}},
			At:       at[4],
		},
	}}}})
}

// P11.1: methods with bodies, of void and of types; a predicate, then a block.
func TestMethods(t *testing.T) {
	text, at := marked("class ^A { def ^f(): ^void { ^return; } def ^g(): ^int{v | ^v} { ^v = ^1; } def ^h(): ^A? { } def ^i(): ^int^[] { ^return ^1; } } main { }")
	withPred := intType(at[5])
	withPred.Pred = one(name("v", at[6]))
	wantTree(t, text, api.Program{Classes: []api.Class{{Name: "A", At: at[0], Meths: []api.Method{
		{Name: "f", Result: api.Type{Kind: api.Void, At: at[2]}, Body: []api.Stmt{{Kind: "return", At: at[3]}}, At: at[1]},
		{Name: "g", Result: withPred, Body: []api.Stmt{{Kind: "set", Name: "v", Exprs: one(num("1", at[8])), At: at[7]}}, At: at[4]},
		{Name: "h", Result: api.Type{Kind: api.Ref, Name: "A", Null: true, At: at[10]}, At: at[9]},
		{Name: "i", Result: listType(intType(at[12]), at[13]), Body: []api.Stmt{{Kind: "return", Exprs: one(num("1", at[15])), At: at[14]}}, At: at[11]},
	}}}})
}

// P11.1: types without predicates. A list's place is its bracket's.
func TestTypes(t *testing.T) {
	wantType(t, "^int", func(at []int) api.Type { return intType(at[0]) })
	wantType(t, "^bool", func(at []int) api.Type { return boolType(at[0]) })
	wantType(t, "^T", func(at []int) api.Type { return api.Type{Kind: api.Ref, Name: "T", At: at[0]} })
	wantType(t, "^v", func(at []int) api.Type { return api.Type{Kind: api.Ref, Name: "v", At: at[0]} })
	wantType(t, "^T?", func(at []int) api.Type { return api.Type{Kind: api.Ref, Name: "T", Null: true, At: at[0]} })
	wantType(t, "^T^[]", func(at []int) api.Type { return listType(api.Type{Kind: api.Ref, Name: "T", At: at[0]}, at[1]) })
	wantType(t, "^T ? ^[ ] ?", func(at []int) api.Type {
		list := listType(api.Type{Kind: api.Ref, Name: "T", Null: true, At: at[0]}, at[1])
		list.Null = true
		return list
	})
	wantType(t, "^int^[]^[]?^[]", func(at []int) api.Type {
		inner := listType(listType(intType(at[0]), at[1]), at[2])
		inner.Null = true
		return listType(inner, at[3])
	})
}

// P11.1: a predicate behind each part of a type, or behind some.
func TestTypePredicates(t *testing.T) {
	wantType(t, "^int{v | ^v}", func(at []int) api.Type {
		return api.Type{Kind: api.Int, Pred: one(name("v", at[1])), At: at[0]}
	})
	wantType(t, "^T?{v|^true}^[]?{ v | ^false }^[]{v // v\n| ^1}", func(at []int) api.Type {
		elem := api.Type{Kind: api.Ref, Name: "T", Null: true, Pred: one(word("true", at[1])), At: at[0]}
		inner := api.Type{Kind: api.List, Elem: []api.Type{elem}, Null: true, Pred: one(word("false", at[3])), At: at[2]}
		return api.Type{Kind: api.List, Elem: []api.Type{inner}, Pred: one(num("1", at[5])), At: at[4]}
	})
	wantType(t, "^bool^[]^[]{v | ^len(^v) ^== ^2}^[]", func(at []int) api.Type {
		middle := listType(listType(boolType(at[0]), at[1]), at[2])
		middle.Pred = one(made("==", at[5], made("len", at[3], name("v", at[4])), num("2", at[6])))
		return listType(middle, at[7])
	})
	wantType(t, "^int{v | ^x}^[]", func(at []int) api.Type {
		return listType(api.Type{Kind: api.Int, Pred: one(name("x", at[1])), At: at[0]}, at[2])
	})
}
