package linear_test

import (
	"slices"
	"strings"
	"testing"

	"surety/api"
	"surety/arith"
	"surety/linear"
)

// useAll calls everything of two terms; P1: nothing of that panics.
func useAll(a, b linear.Term, values []arith.Int) {
	for _, v := range []int{-1, 0, 2, api.MaxVars - 1, api.MaxVars} {
		a.Coef(v)
		linear.Put(a, v, b)
		linear.Put(a, v, a)
	}
	clear(a.Vars())
	a.IsNum()
	linear.Same(a, b)
	linear.Add(a, b)
	linear.Sub(a, b)
	linear.Scale(a, b.Rest())
	a.Neg().Neg()
	a.At(values)
	a.Text()
	a.Common()
	useRow(linear.AtMost(a), values)
	useRow(linear.Row{Sum: a, Most: b.Rest()}, values)
}

func useRow(r linear.Row, values []arith.Int) {
	clear(r.Plain().Sum)
	r.Tight().Tight()
	r.Not()
	r.Holds(values)
	linear.Read(r.Plain())
}

func texts(list []linear.Term) string {
	var out []string
	for _, x := range list {
		out = append(out, x.Text())
	}
	return strings.Join(out, "; ")
}

// P1 and P2: no call changes a term, its own answers, or what values and their spare room are.
func TestTermsStay(t *testing.T) {
	list := terms(t, sums(19, 20))
	for _, x := range list[:len(list):len(list)] {
		put, _ := linear.Put(x, 77, x)
		list = append(list, x.Neg(), put, linear.AtMost(x).Sum, linear.Row{Sum: x}.Tight().Sum)
	}
	before := texts(list)
	values := wholes(t, bigs(1, -2, 3, 4, 5, 6))
	for i, x := range list {
		// Every third will do, another one each time.
		for j := i % 3; j < len(list); j += 3 {
			useAll(x, list[j], values[:3])
		}
	}
	if texts(list) != before {
		t.Error("terms were changed")
	}
	for i, want := range []string{"1", "-2", "3", "4", "5", "6"} {
		if values[i].Text() != want {
			t.Errorf("the value at %d became %s", i, values[i].Text())
		}
	}
}

// P2: Read changes neither its row nor the row's spare room, refused or not, and doesn't keep it.
func TestReadLeavesItsRow(t *testing.T) {
	for _, wrong := range []string{"-3", "x"} {
		list := []api.Mono{{Var: 7, Coef: "1"}, {Var: 2, Coef: "5"}, {Var: 7, Coef: wrong}, {Var: 0, Coef: "77"}}
		before := slices.Clone(list)
		r, err := linear.Read(api.Row{Sum: list[:3], Most: "4"})
		if !slices.Equal(list, before) {
			t.Errorf("the row became %v", list)
		}
		told := text(r)
		again, errAgain := linear.Read(api.Row{Sum: list[:3], Most: "4"})
		if err != errAgain || text(again) != told {
			t.Errorf("read again: %s, error %d, then %s, error %d", told, err, text(again), errAgain)
		}
		list[0], list[1] = api.Mono{Var: 1, Coef: "9"}, api.Mono{}
		if text(r) != told {
			t.Errorf("%s became %s when what it was read from was changed", told, text(r))
		}
	}
}

// P2: what Plain answers is new each time.
func TestPlainIsNew(t *testing.T) {
	r := linear.Row{Sum: term(t, of(0, 0, 2, 1, -4)), Most: arith.From(3)}
	first, second := r.Plain(), r.Plain()
	first.Sum[0] = api.Mono{Var: 9, Coef: "9"}
	_ = append(first.Sum[:1], api.Mono{})
	want := []api.Mono{{Var: 0, Coef: "2"}, {Var: 1, Coef: "-4"}}
	if !slices.Equal(second.Sum, want) || !slices.Equal(r.Plain().Sum, want) || text(r) != "2*x0 + -4*x1 <= 3" {
		t.Errorf("a list that was changed changed %v or %s", second, text(r))
	}
}

// P2: At doesn't keep its values, nor what it answered before.
func TestAtHangsOnItsValues(t *testing.T) {
	x := term(t, of(1, 0, 2, 1, 3))
	values := wholes(t, bigs(1, 1))
	first, _ := x.At(values)
	values[0] = arith.From(10)
	second, _ := x.At(values)
	if first.Text() != "6" || second.Text() != "24" {
		t.Errorf("at 1 and 1: %s, at 10 and 1: %s", first.Text(), second.Text())
	}
}
