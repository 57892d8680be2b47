package smt_test

import (
	"strings"
	"testing"

	"surety/api"
	"surety/smt"
)

// odd: names that might be taken for what stands around them.
func odd() []string {
	return []string{"", " ", "x", "y", "xy", "x y", "(", ")", "()", ",", ", ", "x)", "(x", "x, y", "0", "1", "11", "-1", ":", "1:", "1:x", "1:x(", "11:1:p()", "\x00", "\n", "ä", "\xff", "\"", "\\"}
}

// pool: trees many of which are nearly alike.
func pool() []api.Form {
	l := list(api.Form{})
	kinds := []int{-1, 0, 1, 2, 3, 4, 5, 11, 12, 13, 14, 15, 16, 17, 18, 99, 111}
	for _, kind := range kinds {
		for _, name := range odd() {
			l = append(l, form(kind, name), form(kind, name, x()))
		}
		l = append(l, form(kind, "", x(), y()), form(kind, "", y(), x()), form(kind, "", f(x()), y()), form(kind, "", f(x(), y())), form(kind, "", f(), x(), y()))
		l = append(l, form(kind, "", form(kind, "")), form(kind, "", form(kind, ""), form(kind, "")), form(kind, "", form(kind, "", form(kind, ""))))
	}
	for _, a := range odd() {
		for _, b := range odd()[:12] {
			l = append(l, app(a, v(b)), app(a, app(b)), eq(v(a), v(b)), le(v(a), v(b)), and(boolean(a), boolean(b)), app(a+b), v(a+b))
		}
	}
	return l
}

// P9.1: trees have a Key in common just if they are alike.
func TestKey(t *testing.T) {
	trees := pool()
	keys := make([]string, len(trees))
	for i, tree := range trees {
		keys[i] = smt.Key(tree)
		if smt.Key(clone(tree)) != keys[i] {
			t.Errorf("%s has two keys", show(tree))
		}
	}
	both := [2]int{}
	for i, a := range trees {
		for j, b := range trees {
			is := alike(a, b)
			if (keys[i] == keys[j]) != is {
				t.Fatalf("%s and %s are alike: %t; their keys are %q and %q", show(a), show(b), is, keys[i], keys[j])
			}
			if is && show(a) != show(b) {
				both[0]++
			} else if !is && a.Kind == b.Kind {
				both[1]++
			}
		}
	}
	if both[0] == 0 || both[1] == 0 {
		t.Errorf("%v", both)
	}
}

// P9.1: which Names count.
func TestKeyNames(t *testing.T) {
	for kind := -1; kind <= 20; kind++ {
		counts := kind == api.TVar || kind == api.TNum || kind == api.TMul || kind == api.TApp || kind == api.FBool
		a, b := form(kind, "one", x()), form(kind, "other", x())
		if (smt.Key(a) != smt.Key(b)) != counts {
			t.Errorf("kind %d: the keys are %q and %q", kind, smt.Key(a), smt.Key(b))
		}
		if (smt.Key(f(a, y())) != smt.Key(f(b, y()))) != counts {
			t.Errorf("kind %d, within another: the keys are %q and %q", kind, smt.Key(f(a, y())), smt.Key(f(b, y())))
		}
	}
	if smt.Key(api.Form{Kind: api.TApp, Name: "f"}) != smt.Key(api.Form{Kind: api.TApp, Name: "f", Args: []api.Form{}}) {
		t.Error("no Args, and an empty list of them")
	}
}

// P9.1: a name that has all that stands between two names in a key doesn't make one tree of two.
func TestKeyGlue(t *testing.T) {
	for _, make := range []func(a, b string) api.Form{
		func(a, b string) api.Form { return and(boolean(a), boolean(b)) },
		func(a, b string) api.Form { return or(boolean(a), not(boolean(b))) },
		func(a, b string) api.Form { return app(a, v(b)) },
		func(a, b string) api.Form { return f(v(a), v(b)) },
		func(a, b string) api.Form { return f(app(a), app(b)) },
		func(a, b string) api.Form { return form(api.TMul, a, v(b)) },
		func(a, b string) api.Form { return le(form(api.TNum, a), add(v(b))) },
	} {
		key := smt.Key(make("left", "right"))
		_, rest, _ := strings.Cut(key, "left")
		glue, _, ok := strings.Cut(rest, "right")
		if !ok {
			t.Fatalf("%q doesn't have both names", key)
		}
		for _, name := range []string{"left" + glue + "right", "right" + glue + "left", "left" + glue} {
			for _, tree := range list(and(boolean(name)), or(boolean(name)), app(name), f(v(name)), f(app(name)), form(api.TMul, name, x()), le(form(api.TNum, name), y()), make(name, "right"), make("left", name)) {
				if smt.Key(tree) == key {
					t.Errorf("%s has the key %q", show(tree), key)
				}
			}
		}
	}
}

// P9.1: random trees, held against being alike; what differs in one place has another key.
func TestKeyRandom(t *testing.T) {
	d := dice(3)
	for range 3000 {
		a, b := d.shared(3), d.shared(3)
		if (smt.Key(a) == smt.Key(b)) != alike(a, b) {
			t.Fatalf("%s and %s", show(a), show(b))
		}
		c := clone(a)
		d.changeOne(&c)
		if (smt.Key(a) == smt.Key(c)) != alike(a, c) {
			t.Fatalf("%s and %s", show(a), show(c))
		}
	}
}

// changeOne: something in one part of a tree.
func (d *dice) changeOne(t *api.Form) {
	if len(t.Args) > 0 && d.next(4) > 0 {
		d.changeOne(&t.Args[d.next(len(t.Args))])
		return
	}
	switch d.next(4) {
	case 0:
		t.Kind++
	case 1:
		t.Name += "x"
	case 2:
		t.Args = append(t.Args, x())
	case 3:
		t.Args = nil
	}
}

// P1, P9.1: trees as deep as may be handed in.
func TestKeyDeep(t *testing.T) {
	wrap := func(t api.Form) api.Form { return f(t) }
	a, b := deep(1<<16-1, wrap, x()), deep(1<<16-1, wrap, y())
	if smt.Key(a) == smt.Key(b) || smt.Key(a) != smt.Key(deep(1<<16-1, wrap, x())) {
		t.Error("deep trees")
	}
}
