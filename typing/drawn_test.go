package typing_test

import (
	"math/rand"
	"reflect"
	"testing"

	"surety/api"
	"surety/syntax"
	"surety/typing"
)

// P13.2 to P13.7: drawn programs without faults: the typed program that the test reckons.
func TestDrawn(t *testing.T) {
	r := rand.New(rand.NewSource(1))
	right, overloaded := 0, 0
	ops := map[string]int{}
	for range 500 {
		p := reread(t, drawn(r, 1000000))
		want, f := reckoned(p)
		if f != ok {
			wantFault(t, p, f)
			continue
		}
		right++
		wantReckoned(t, p)
		table, _ := typed(t, p)
		eachPlain(reflect.ValueOf(&want).Elem(), func(e *api.Expr) {
			ops[e.Op]++
			if e.Op == "call" && len(table.Overloads(typeOf(e.Args[0]).Name, renamed(api.Program{Main: []api.Stmt{{Exprs: []api.Expr{*e}}}}).Main[0].Exprs[0].Name)) > 1 {
				overloaded++
			}
		})
	}
	if right < 400 || overloaded < 200 {
		t.Errorf("%d drawn programs without a fault, with %d calls of overloads", right, overloaded)
	}
	for _, op := range []string{"num", "true", "false", "null", "this", "var", "read", "field", "call", "new", "list", "index", "len", "neg", "not", "+", "-", "*", "/", "%", "<", "<=", ">", ">=", "==", "!=", "&&", "||", "=>"} {
		if ops[op] < 100 {
			t.Errorf("%s was drawn %d times", op, ops[op])
		}
	}
}

// P13.2 to P13.6: drawn programs with slips and changes: the first fault that the test reckons, or the typed program.
func TestDrawnFaults(t *testing.T) {
	r := rand.New(rand.NewSource(2))
	times := map[api.Errno]int{}
	var right api.Program
	for i := range 6000 {
		if i%6 == 0 {
			right = drawn(r, []int{1000000, 1000000, 300, 60}[i/6%4])
		}
		p := right
		for range 1 + i%3 {
			p = spoilt(r, p)
		}
		p = reread(t, p)
		want, f := reckoned(p)
		times[f.Code]++
		if f != ok {
			wantFault(t, p, f)
		} else if _, out, f := typing.Check(p); f != ok || !reflect.DeepEqual(same(undressed(out)), same(want)) {
			t.Errorf("Check of %s: %v", short(syntax.Print(p)), f)
		}
	}
	for _, code := range []api.Errno{
		api.OK, api.ErrTwice, api.ErrNoType, api.ErrName, api.ErrType, api.ErrNoMethod, api.ErrAmbiguous, api.ErrReturn, api.ErrThis, api.ErrFinal, api.ErrInit, api.ErrPred, api.ErrAbstract,
	} {
		if times[code] < 20 {
			t.Errorf("error %d was drawn %d times: %v", code, times[code], times)
		}
	}
}
