package classes_test

import (
	"strings"
	"testing"

	"surety/api"
	"surety/classes"
	"surety/syntax"
)

// P12.1: Base of every sort of type, with promises and ?.
func TestBase(t *testing.T) {
	for text, want := range map[string]string{
		"int":                            "int",
		"bool":                           "bool",
		"int{v | v > 0}":                 "int",
		"bool{v | v}":                    "bool",
		"A":                              "A",
		"A?":                             "A",
		"A{v | v != null}":               "A",
		"A?{v | v != null}":              "A",
		"_x1":                            "_x1",
		"int[]":                          "int[]",
		"int[]?":                         "int[]",
		"int[]{v | len(v) > 0}":          "int[]",
		"int[]?{v | len(v) > 0}":         "int[]",
		"bool[]":                         "bool[]",
		"A[]":                            "A[]",
		"A?[]":                           "A?[]",
		"A?[]?":                          "A?[]",
		"int{v | v > 0}[]":               "int{v | v > 0}[]",
		"int{v|(v)>(0)}[]":               "int{v | v > 0}[]",
		"int{v | v > 0}[]{v | true}":     "int{v | v > 0}[]",
		"A?{v | v != null}[]?{v | true}": "A?{v | v != null}[]",
		"int[][]":                        "int[][]",
		"int[]?[]?":                      "int[]?[]",
		"int[]{v | len(v) > 0}[]":        "int[]{v | len(v) > 0}[]",
		"int{v | v < 9}[]?{v | true}[]?": "int{v | v < 9}[]?{v | true}[]",
	} {
		if got := classes.Base(typ(t, text)); got != want {
			t.Errorf("Base(%s): %q; want %q", text, got, want)
		}
	}
	for kind, want := range map[int]string{api.Void: "void", api.Nil: "null"} {
		if got := classes.Base(api.Type{Kind: kind, At: 7}); got != want {
			t.Errorf("Base of kind %d: %q; want %q", kind, got, want)
		}
	}
	result := program(t, "interface I { def f(): void; } main { }").Classes[0].Meths[0].Result
	if got := classes.Base(result); got != "void" {
		t.Errorf("Base of void: %q", got)
	}
}

// P12.1: where a type stands doesn't matter, nor what a list of void or of null would be called.
func TestBaseOfTrees(t *testing.T) {
	for at := range 3 {
		list := api.Type{Kind: api.List, Elem: []api.Type{{Kind: api.Ref, Name: "A", Null: true, At: at}}, At: 2 * at}
		if got := classes.Base(list); got != "A?[]" {
			t.Errorf("Base at %d: %q", at, got)
		}
	}
	for _, kind := range []int{api.Void, api.Nil} {
		elem := api.Type{Kind: kind}
		if got, want := classes.Base(api.Type{Kind: api.List, Elem: []api.Type{elem}}), syntax.TypeText(elem)+"[]"; got != want {
			t.Errorf("Base: %q; want %q", got, want)
		}
	}
}

// P12.1: Signature: no blanks but those of the elements' types, whatever else the parameters are.
func TestSignature(t *testing.T) {
	for list, want := range map[string]string{
		"":                                   "f()",
		"a: int":                             "f(int)",
		"b: int{v | v > 0}":                  "f(int)",
		"a: int, b: bool":                    "f(int,bool)",
		"b: bool, a: int":                    "f(bool,int)",
		"a: A?, b: A, c: B{v | v != null}":   "f(A,A,B)",
		"a: int{v | v > 0}[]?, b: A?[]":      "f(int{v | v > 0}[],A?[])",
		"a: int[][], b: int[], c: int":       "f(int[][],int[],int)",
		"a: int, b: int{v | v >= a}, c: int": "f(int,int,int)",
	} {
		if got := classes.Signature("f", params(t, list)); got != want {
			t.Errorf("Signature of f(%s): %q; want %q", list, got, want)
		}
	}
	if got := classes.Signature("", nil); got != "()" {
		t.Errorf("Signature of nothing: %q", got)
	}
	if got := classes.Signature("get", []api.Param{{Name: "x", Type: api.Type{Kind: api.Nil}}, {}}); got != "get(null,void)" {
		t.Errorf("Signature: %q", got)
	}
	many := params(t, listed(100, "#: int"))
	if got, want := classes.Signature("m", many), "m("+strings.TrimSuffix(strings.Repeat("int,", 100), ",")+")"; got != want {
		t.Errorf("Signature of a hundred parameters: %q", got)
	}
}

// P12.3: Known looks at a type's class, or that of the parts of a list, and at nothing else.
func TestKnown(t *testing.T) {
	known := table(t, "interface I { } class A { }")
	none := table(t, "")
	for _, text := range []string{"int", "bool{v | v == new C()}", "int[]", "bool[][]?"} {
		for _, table := range []*classes.Table{known, none} {
			if f := table.Known(typ(t, text)); f != (api.Fault{}) {
				t.Errorf("Known(%s): %v", text, f)
			}
		}
	}
	for _, text := range []string{"A", "I", "A?", "I{v | v != null}", "A[]", "I?[][]?", "A{v | list C(0, null) == v}[]"} {
		if f := known.Known(typ(t, text)); f != (api.Fault{}) {
			t.Errorf("Known(%s): %v", text, f)
		}
		if f := none.Known(typ(t, text)); f != (api.Fault{Code: api.ErrNoType, At: len("main { let x: ")}) {
			t.Errorf("Known(%s) without classes: %v", text, f)
		}
	}
	for _, text := range []string{"B", "a", "AA", "II?", "C{v | true}", "B[]", "B?[]?[][]{v | true}"} {
		if f := known.Known(typ(t, text)); f != (api.Fault{Code: api.ErrNoType, At: len("main { let x: ")}) {
			t.Errorf("Known(%s): %v", text, f)
		}
	}
	for _, kind := range []int{api.Void, api.Nil, api.Int, api.Bool} {
		if f := known.Known(api.Type{Kind: kind, Name: "B", At: 3, Elem: []api.Type{{Kind: api.Ref, Name: "B"}}}); f != (api.Fault{}) {
			t.Errorf("Known of kind %d: %v", kind, f)
		}
	}
}
