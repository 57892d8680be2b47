package theory_test

import (
	"math/big"
	"slices"
	"strconv"
	"strings"
	"testing"

	"surety/api"
	"surety/euf"
	"surety/theory"
)

func wantAlike(t *testing.T, equations [][2]api.Form, a, b api.Form, want bool) {
	t.Helper()
	for _, turned := range [][2]api.Form{{a, b}, {b, a}} {
		got, err := theory.Alike(equations, turned[0], turned[1])
		if err != api.OK || got != want {
			t.Errorf("Alike(%s, %s): %t, error %d; want %t", brief(turned[0]), brief(turned[1]), got, err, want)
		}
	}
}

func wantNotAlike(t *testing.T, what string, equations [][2]api.Form, a, b api.Form, want api.Errno) {
	t.Helper()
	if got, err := theory.Alike(equations, a, b); got || err != want {
		t.Errorf("%s: Alike: %t, error %d; want error %d", what, got, err, want)
	}
}

// P8.4: sums are what they come to, without equations.
func TestAlikeSums(t *testing.T) {
	wantAlike(t, nil, x(), x(), true)
	wantAlike(t, nil, x(), y(), false)
	wantAlike(t, nil, add(x(), y()), add(y(), x()), true)
	wantAlike(t, nil, add(x(), add(y(), num(2))), add(num(1), y(), x(), num(1)), true)
	wantAlike(t, nil, add(x(), y(), mul(-1, y())), x(), true)
	wantAlike(t, nil, add(x(), mul(-1, x())), num(0), true)
	wantAlike(t, nil, add(), num(0), true)
	wantAlike(t, nil, mul(0, f(x())), add(), true)
	wantAlike(t, nil, mul(2, add(x(), num(3))), add(x(), x(), num(6)), true)
	wantAlike(t, nil, add(f(add(x(), y())), f(add(y(), x()))), mul(2, f(add(x(), y()))), true)
	wantAlike(t, nil, add(x(), num(1)), add(x(), num(2)), false)
	wantAlike(t, nil, mul(2, x()), mul(3, x()), false)
	wantAlike(t, nil, num(2), num(3), false)
	wantAlike(t, nil, add(num(1), num(1)), num(2), true)
	wantAlike(t, nil, form(api.TAdd, "any", x()), x(), true)
}

// P8.4: functions of arguments that are alike, of other names, or of other numbers of arguments.
func TestAlikeFunctions(t *testing.T) {
	wantAlike(t, nil, f(add(x(), num(1))), f(add(num(1), x())), true)
	wantAlike(t, nil, f(f(add(x(), x()))), f(f(mul(2, x()))), true)
	wantAlike(t, nil, f(x()), f(y()), false)
	wantAlike(t, nil, f(x()), g(x()), false)
	wantAlike(t, nil, f(x()), f(x(), x()), false)
	wantAlike(t, nil, f(x(), y()), f(y(), x()), false)
	wantAlike(t, nil, f(), f(), true)
	wantAlike(t, nil, f(), v("f"), false)
	wantAlike(t, nil, app("x"), x(), false)
	wantAlike(t, equal(two(f(), v("f"))), f(), v("f"), true)
	wantAlike(t, equal(two(f(), v("f"))), f(f()), f(v("f")), true)
	wantAlike(t, equal(two(f(), v("f"))), f(f()), f(), false)
}

// P8.4: names with signs in them aren't taken for others.
func TestAlikeOddNames(t *testing.T) {
	names := []string{"", " ", ",", "(", ")", "f", "f(", "1", "1:", "1:f", "f1:1", "f, 1", "f 1", "f 0", "v", "s0", "s1", "v1"}
	var list []api.Form
	for _, name := range names {
		list = append(list, v(name), app(name), app(name, num(1)), app(name, v(name)), app(name, num(1), num(1)), app(name, app(name)))
	}
	for i, a := range list {
		for j, b := range list {
			if got, err := theory.Alike(nil, a, b); err != api.OK || got != (i == j) {
				t.Errorf("Alike(%s, %s): %t, error %d", show(a), show(b), got, err)
			}
			if got, err := theory.Alike(equal(two(num(1), num(2)), two(v("?"), add(v("?"), num(1)))), a, b); err != api.OK || got != (i == j) {
				t.Errorf("with equations: Alike(%s, %s): %t, error %d", show(a), show(b), got, err)
			}
		}
	}
}

// P8.4: by the equations, straight, by way of others, and by arguments.
func TestAlikeByEquations(t *testing.T) {
	e := equal(two(x(), y()), two(y(), z()))
	wantAlike(t, e, x(), z(), true)
	wantAlike(t, e, f(x()), f(z()), true)
	wantAlike(t, e, f(g(x()), x()), f(g(z()), y()), true)
	wantAlike(t, e, f(x()), g(z()), false)
	wantAlike(t, e, f(x()), f(x(), x()), false)
	wantAlike(t, e[:1], f(x()), f(z()), false)
	// layer 5's example
	ring := equal(two(f(f(x())), x()), two(f(f(f(x()))), x()))
	wantAlike(t, ring, f(x()), x(), true)
	wantAlike(t, ring[:1], f(x()), x(), false)
	// what stands in no equation
	wantAlike(t, equal(two(f(x()), y())), g(f(x())), g(y()), true)
	wantAlike(t, equal(two(num(1), num(2))), f(num(1)), f(num(2)), true)
	wantAlike(t, equal(two(x(), num(3))), f(num(3)), f(x()), true)
	wantAlike(t, equal(two(x(), num(3))), num(3), x(), true)
}

// P8.4: a sum is taken as one: nothing is known of what it is made of.
func TestAlikeSumsAsOne(t *testing.T) {
	e := equal(two(x(), y()))
	wantAlike(t, e, add(x(), num(1)), add(y(), num(1)), false)
	wantAlike(t, e, add(f(x()), num(1)), add(f(y()), num(1)), false)
	wantAlike(t, e, f(add(x(), num(1))), f(add(y(), num(1))), false)
	wantAlike(t, e, mul(2, x()), mul(2, y()), false)
	wantAlike(t, equal(two(add(x(), num(1)), add(y(), num(1)))), x(), y(), false)
	wantAlike(t, equal(two(add(x(), mul(-1, y())), num(0))), x(), y(), false)
	// but as one it is the same as another one, in whatever order it is written
	named := equal(two(add(x(), num(1)), z()), two(add(num(1), y()), z()))
	wantAlike(t, named, add(num(1), x()), add(y(), num(1)), true)
	wantAlike(t, named, f(add(num(1), x())), f(add(y(), num(1))), true)
	wantAlike(t, named, f(add(num(1), x())), f(z()), true)
	wantAlike(t, named, f(add(num(2), x())), f(add(num(2), y())), false)
	// with parts that cancel it is an unknown alone
	wantAlike(t, equal(two(add(x(), z(), mul(-1, z())), mul(1, y()))), f(x()), f(y()), true)
}

// P8.4: the errors, in their order.
func TestAlikeRefuses(t *testing.T) {
	digit, kind := form(api.TNum, "x"), form(77, "")
	tooBig := mul(2, bigMul(power(1023, 0), x()))
	many := slices.Repeat(equal(two(x(), y())), api.MaxRows)
	wantAlike(t, many, f(x()), f(y()), true)
	wantNotAlike(t, "too many equations", append(many, two(kind, kind)), kind, kind, api.ErrLong)
	wantNotAlike(t, "an equation's fault", equal(two(x(), y()), two(x(), digit), two(kind, x())), kind, kind, api.ErrDigit)
	wantNotAlike(t, "the other's fault", equal(two(kind, digit)), digit, digit, api.ErrForm)
	wantNotAlike(t, "a formula", equal(two(x(), le(x(), y()))), x(), x(), api.ErrForm)
	wantNotAlike(t, "a sum's number", equal(two(tooBig, x()), two(kind, kind)), kind, kind, api.ErrBig)
	wantNotAlike(t, "a fault ahead of it", equal(two(x(), kind), two(tooBig, x())), x(), x(), api.ErrForm)
	wantNotAlike(t, "a's fault", equal(two(x(), y())), kind, digit, api.ErrForm)
	wantNotAlike(t, "b's fault", equal(two(x(), y())), x(), digit, api.ErrDigit)
	wantNotAlike(t, "b's fault ahead of a's sum", nil, add(variables(api.MaxVars+1)...), digit, api.ErrDigit)
	wantNotAlike(t, "formulas", nil, and(), and(), api.ErrForm)
	wrap := func(t api.Form) api.Form { return f(t) }
	deepest := deep(api.MaxForm-1, wrap, x())
	wantAlike(t, nil, deepest, deepest, true)
	wantNotAlike(t, "deep", nil, x(), wrap(deepest), api.ErrDeep)
	wantNotAlike(t, "deep in an equation", equal(two(deepest, x())), x(), x(), api.ErrDeep)
	wantNotAlike(t, "long in an equation", equal(two(f(repeated(api.MaxNodes-2, x())...), x())), x(), x(), api.ErrLong)
	if got, err := theory.Alike(nil, tooBig, x()); got || err != api.ErrBig {
		t.Errorf("a's sum: %t, error %d", got, err)
	}
}

// P8.4: as many variables and functions as there may be, and one more.
func TestAlikeMaxVars(t *testing.T) {
	all := variables(api.MaxVars)
	one := v("one more")
	full := add(all...)
	wantAlike(t, nil, full, full, true)
	wantNotAlike(t, "one more", nil, full, one, api.ErrLong)
	wantNotAlike(t, "one more", nil, one, full, api.ErrLong)
	wantNotAlike(t, "a function more", nil, full, f(all[0]), api.ErrLong)
	wantNotAlike(t, "in a function", nil, full, f(one), api.ErrLong)
	wantNotAlike(t, "one more that cancels", nil, full, add(one, mul(-1, one)), api.ErrLong)
	chain := equal(two(full, all[0]), two(all[0], all[1]))
	wantAlike(t, chain, full, all[1], true)
	wantNotAlike(t, "one more than the equations'", chain, all[0], one, api.ErrLong)
	wantNotAlike(t, "one more among the equations", append(chain, two(one, one)), all[0], all[0], api.ErrVar)
	// as many equations and functions as there may be
	var list [][2]api.Form
	for i := range api.MaxVars/2 - 1 {
		list = append(list, two(all[i], all[i+1]))
	}
	var left, right []api.Form
	for i := range api.MaxVars/4 - 1 {
		left = append(left, f(all[i]))
		right = append(right, f(all[api.MaxVars/2-1-i]))
	}
	wantAlike(t, list, g(left...), g(right...), true)
	wantAlike(t, list[1:], g(left...), g(right...), false)
	for i := range api.MaxRows - len(list) {
		list = append(list, two(add(all[0], num(i+1)), num(-1-i)))
	}
	wantAlike(t, list, g(left...), g(right...), true)
}

// P8.4: more arguments that are sums than a graph has nodes.
func TestAlikeManySums(t *testing.T) {
	list := numbers(api.MaxNodes - 5)
	other := slices.Clone(list)
	slices.Reverse(other)
	e := equal(two(f(list...), x()), two(f(other...), y()), two(num(0), num(api.MaxNodes-6)))
	wantAlike(t, e, f(list...), x(), true)
	wantAlike(t, e, x(), y(), false)
	far := slices.Clone(list)
	for i := range far {
		far[i] = num(i + api.MaxNodes)
	}
	wantAlike(t, e, f(far...), x(), false)
	swapped := slices.Clone(other)
	swapped[0], swapped[len(swapped)-1] = swapped[len(swapped)-1], swapped[0]
	wantAlike(t, e, f(swapped...), y(), true)
}

// plain is a term as it is written anew: the sum of its variables and functions, by their texts.
func plain(tree api.Form) string {
	coefs, rest := map[string]*big.Int{}, new(big.Int)
	gather(tree, big.NewInt(1), coefs, rest)
	var list []string
	for text, n := range coefs {
		if n.Sign() != 0 {
			list = append(list, n.String()+"*"+text)
		}
	}
	slices.Sort(list)
	if len(list) == 1 && rest.Sign() == 0 && strings.HasPrefix(list[0], "1*") {
		return strings.TrimPrefix(list[0], "1*")
	}
	return "sum[" + strings.Join(list, "+") + "+" + rest.String() + "]"
}

func gather(tree api.Form, by *big.Int, coefs map[string]*big.Int, rest *big.Int) {
	switch tree.Kind {
	case api.TNum:
		n, _ := isNumber(tree.Name)
		rest.Add(rest, n.Mul(n, by))
		return
	case api.TMul:
		n, _ := isNumber(tree.Name)
		gather(tree.Args[0], n.Mul(n, by), coefs, rest)
		return
	case api.TAdd:
		for _, arg := range tree.Args {
			gather(arg, by, coefs, rest)
		}
		return
	}
	text := strconv.Quote(tree.Name)
	if tree.Kind == api.TApp {
		var args []string
		for _, arg := range tree.Args {
			args = append(args, plain(arg))
		}
		text += "(" + strings.Join(args, ";") + ")"
	}
	if coefs[text] == nil {
		coefs[text] = new(big.Int)
	}
	coefs[text].Add(coefs[text], by)
}

// applications: the functions in a tree, by their texts: name and number of arguments, and the arguments' texts.
func applications(tree api.Form, into map[string][]string) {
	for _, arg := range tree.Args {
		applications(arg, into)
	}
	if tree.Kind != api.TApp {
		return
	}
	made := []string{strconv.Quote(tree.Name) + strconv.Itoa(len(tree.Args))}
	for _, arg := range tree.Args {
		made = append(made, plain(arg))
	}
	into[plain(tree)] = made
}

// closed: are two terms the same, by the chapter's words, till nothing more is?
func closed(equations [][2]api.Form, a, b api.Form) bool {
	up := map[string]string{}
	var top func(string) string
	top = func(s string) string {
		if up[s] == "" {
			return s
		}
		return top(up[s])
	}
	join := func(s, t string) bool {
		if s, t = top(s), top(t); s != t {
			up[s] = t
			return true
		}
		return false
	}
	made := map[string][]string{}
	for _, e := range append(slices.Clone(equations), [2]api.Form{a, b}) {
		applications(e[0], made)
		applications(e[1], made)
	}
	for _, e := range equations {
		join(plain(e[0]), plain(e[1]))
	}
	sameTop := func(s, t string) bool { return top(s) == top(t) }
	for changed := true; changed; {
		changed = false
		for s, one := range made {
			for t, other := range made {
				if one[0] == other[0] && slices.EqualFunc(one[1:], other[1:], sameTop) && join(s, t) {
					changed = true
				}
			}
		}
	}
	return sameTop(plain(a), plain(b))
}

// smallTerm: of few names, so that much is the same.
func (d *dice) smallTerm(depth int) api.Form {
	pick := d.next(9)
	if depth == 0 {
		pick = d.next(5)
	}
	switch pick {
	case 0, 1, 2, 3:
		return v([]string{"x", "y", "z"}[d.next(3)])
	case 4:
		return num(d.number(1))
	case 5:
		return add(d.smallTerm(depth-1), d.smallTerm(depth-1))
	case 6:
		return mul(d.number(2), d.smallTerm(depth-1))
	case 7:
		return f(d.smallTerm(depth - 1))
	}
	return g(d.smallTerm(depth-1), d.smallTerm(depth-1))
}

func (d *dice) smallEquations() [][2]api.Form {
	var list [][2]api.Form
	for range d.next(6) {
		list = append(list, two(d.smallTerm(2), d.smallTerm(2)))
	}
	return list
}

// P8.4: held against closing the equations by the chapter's words.
func TestAlikeOfAnything(t *testing.T) {
	d := dice(11)
	var is [2]int
	for range 20000 {
		e, a, b := d.smallEquations(), d.smallTerm(3), d.smallTerm(3)
		if d.next(2) == 0 && len(e) > 0 {
			a, b = f(e[0][0]), f(e[len(e)-1][1])
		}
		want := closed(e, a, b)
		wantAlike(t, e, a, b, want)
		if want {
			is[1]++
		} else {
			is[0]++
		}
	}
	if is[0] < 1000 || is[1] < 1000 {
		t.Errorf("%v", is)
	}
}

// node: of a term without sums.
func node(t *testing.T, graph *euf.Graph, tree api.Form) int {
	var args []int
	for _, arg := range tree.Args {
		args = append(args, node(t, graph, arg))
	}
	n, err := graph.Node(strconv.Itoa(tree.Kind)+tree.Name, args...)
	if err != api.OK {
		t.Fatal(err)
	}
	return n
}

// P8.4: held against layer 5, of terms without sums.
func TestAlikeAsLayerFive(t *testing.T) {
	d := dice(13)
	var any func(depth int) api.Form
	any = func(depth int) api.Form {
		switch pick := d.next(5); {
		case depth == 0 || pick < 2:
			return v([]string{"x", "y", "z", "f"}[d.next(4)])
		case pick == 2:
			return f()
		case pick == 3:
			return f(any(depth - 1))
		}
		return f(any(depth-1), any(depth-1))
	}
	same := 0
	for range 5000 {
		graph := euf.New()
		var e [][2]api.Form
		for range d.next(6) {
			e = append(e, two(any(2), any(2)))
			graph.Equal(node(t, graph, e[len(e)-1][0]), node(t, graph, e[len(e)-1][1]))
		}
		a, b := any(3), any(3)
		want, err := graph.Same(node(t, graph, a), node(t, graph, b))
		if err != api.OK {
			t.Fatal(err)
		}
		if want {
			same++
		}
		wantAlike(t, e, a, b, want)
	}
	if same < 500 {
		t.Errorf("only %d are the same", same)
	}
}
