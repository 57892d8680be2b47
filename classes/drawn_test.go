package classes_test

import (
	"math/rand"
	"testing"

	"surety/api"
	"surety/syntax"
)

// reread: a drawn program as its print is read, so that it has places.
func reread(t *testing.T, p api.Program) api.Program {
	t.Helper()
	return program(t, syntax.Print(p))
}

// P12.1 to P12.7: drawn programs without faults, each call of their tables against what the test reckons.
func TestDrawn(t *testing.T) {
	r := rand.New(rand.NewSource(1))
	overloads, deep, overridden := 0, 0, 0
	for range 400 {
		p := reread(t, newDrawer(r).right())
		if f, _ := reckoned(p); f != (api.Fault{}) {
			t.Fatalf("a drawn program has a fault: %v in %s", f, syntax.Print(p))
		}
		wantReckoned(t, p)
		b := book(p.Classes)
		for _, c := range p.Classes {
			if len(b.chain(c.Name)) > 3 {
				deep++
			}
			if len(b.overloads(c.Name, "f")) > 1 {
				overloads++
			}
			for _, m := range c.Meths {
				if _, above := b.dispatch(c.Super, signature(m)); above {
					overridden++
				}
			}
		}
	}
	if overloads < 100 || deep < 100 || overridden < 100 {
		t.Errorf("drawn too seldom: %d classes with overloads, %d with long chains, %d overriding methods", overloads, deep, overridden)
	}
}

// P12.2: drawn programs with changes: the first fault that the test reckons, or its table.
func TestDrawnFaults(t *testing.T) {
	r := rand.New(rand.NewSource(2))
	times := map[[2]int]int{} // by the step and the error
	for i := range 4000 {
		d := newDrawer(r)
		p := d.right()
		for range 1 + i%4 {
			p = d.spoilt(p)
		}
		p = reread(t, p)
		want, step := reckoned(p)
		times[[2]int{step, int(want.Code)}]++
		switch {
		case want != (api.Fault{}):
			wantFault(t, p, want)
		case i%5 == 0:
			wantReckoned(t, p)
		default:
			tableOf(t, p)
		}
	}
	for _, kind := range [][2]int{
		{0, 0}, {1, int(api.ErrMany)}, {2, int(api.ErrTwice)}, {3, int(api.ErrNoType)}, {3, int(api.ErrKind)}, {4, int(api.ErrCycle)},
		{5, int(api.ErrTwice)}, {5, int(api.ErrNoType)}, {5, int(api.ErrOverride)}, {6, int(api.ErrImplements)}, {6, int(api.ErrOverride)},
	} {
		if times[kind] < 10 {
			t.Errorf("error %d of step %d was drawn %d times: %v", kind[1], kind[0], times[kind], times)
		}
	}
}

// P12.2: the classes of a program in each order: which fault is told hangs on the order as the test reckons.
func TestOrders(t *testing.T) {
	r := rand.New(rand.NewSource(3))
	for range 200 {
		d := newDrawer(r)
		p := d.right()
		for range 3 {
			p = d.spoilt(p)
		}
		for range 6 {
			r.Shuffle(len(p.Classes), func(i, j int) { p.Classes[i], p.Classes[j] = p.Classes[j], p.Classes[i] })
			q := reread(t, p)
			if want, _ := reckoned(q); want != (api.Fault{}) {
				wantFault(t, q, want)
			} else {
				tableOf(t, q)
			}
		}
	}
}
