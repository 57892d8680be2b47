package classes_test

import (
	"fmt"
	"reflect"
	"slices"

	"surety/api"
)

func text(v reflect.Value) string { return fmt.Sprintf("%+v", v.Interface()) }

// told is a fault that a program has, and where the chapter names it: the step, the class, and so on.
type told struct {
	order []int
	fault api.Fault
}

// ledger is all faults of a program.
type ledger struct {
	book
	faults []told
}

func (l *ledger) tell(is bool, code api.Errno, at int, order ...int) {
	if is {
		l.faults = append(l.faults, told{order, api.Fault{Code: code, At: at}})
	}
}

// reckoned: the first fault by the chapter's order, and the step that tells it; the zero fault and 0, if there is none. The steps from the fifth on have a meaning only where the ones ahead tell nothing.
func reckoned(p api.Program) (api.Fault, int) {
	l := &ledger{book: p.Classes}
	for _, look := range []func(int, api.Class){l.crowds, l.names, l.members, l.promises} {
		for i, c := range l.book {
			look(i, c)
		}
		if len(l.faults) > 0 {
			break
		}
	}
	if len(l.faults) == 0 {
		return api.Fault{}, 0
	}
	slices.SortStableFunc(l.faults, func(a, b told) int { return slices.Compare(a.order, b.order) })
	return l.faults[0].fault, l.faults[0].order[0]
}

// crowds: step 1.
func (l *ledger) crowds(i int, c api.Class) {
	l.tell(i >= 64, api.ErrMany, c.At, 1, i, 0)
	for _, count := range []int{len(c.Fields), len(c.Invs), len(c.Meths), len(c.Above)} {
		l.tell(count > 64, api.ErrMany, c.At, 1, i, 0)
	}
	for j, n := range c.Ctors {
		l.tell(len(n.Params) > 64, api.ErrMany, n.At, 1, i, 1, j)
	}
	for j, m := range c.Meths {
		l.tell(len(m.Params) > 64, api.ErrMany, m.At, 1, i, 2, j)
	}
}

// names: steps 2 to 4.
func (l *ledger) names(i int, c api.Class) {
	_, twice := l.book[:i].find(c.Name)
	l.tell(twice, api.ErrTwice, c.At, 2, i)
	for j, name := range append([]string{c.Super}, c.Above...) {
		up, there := l.find(name)
		if j == 0 && name == "" {
			continue
		}
		l.tell(!there, api.ErrNoType, c.At, 3, i, j)
		l.tell(there && (up.Iface != (j > 0) || j == 0 && c.Iface), api.ErrKind, c.At, 3, i, j)
	}
	l.tell(l.isAbove(c.Name, c.Name), api.ErrCycle, c.At, 4, i)
}

// unknown: what Known of a type must be, and whether that is a fault.
func (b book) unknown(t api.Type) (api.Fault, bool) {
	if t.Kind == api.List {
		return b.unknown(elem(t))
	}
	if _, there := b.find(t.Name); t.Kind == api.Ref && !there {
		return api.Fault{Code: api.ErrNoType, At: t.At}, true
	}
	return api.Fault{}, false
}

func (l *ledger) typ(t api.Type, order ...int) {
	f, is := l.unknown(t)
	l.tell(is, f.Code, f.At, order...)
}

// members: step 5.
func (l *ledger) members(i int, c api.Class) {
	for j, f := range c.Fields {
		ahead := slices.Clone(c.Fields[:j])
		for _, up := range l.chain(c.Name)[1:] {
			ahead = append(ahead, up.Fields...)
		}
		twice := slices.ContainsFunc(ahead, func(g api.Field) bool { return g.Name == f.Name })
		l.tell(twice, api.ErrTwice, f.At, 5, i, 0, j, 0)
		l.typ(f.Type, 5, i, 0, j, 1)
	}
	for j, n := range c.Ctors {
		l.tell(j > 0, api.ErrTwice, n.At, 5, i, 1, j, 0)
		l.params(n.Params, 5, i, 1, j, 1)
	}
	for j, m := range c.Meths {
		l.params(m.Params, 5, i, 2, j, 0)
		l.typ(m.Result, 5, i, 2, j, 1)
		twice := slices.ContainsFunc(c.Meths[:j], func(n api.Method) bool { return signature(n) == signature(m) })
		l.tell(twice, api.ErrTwice, m.At, 5, i, 2, j, 2)
		for _, name := range l.above(c.Name) {
			up, _ := l.find(name)
			for _, n := range up.Meths {
				l.tell(signature(n) == signature(m) && base(n.Result) != base(m.Result), api.ErrOverride, m.At, 5, i, 2, j, 3)
			}
		}
	}
}

func (l *ledger) params(list []api.Param, order ...int) {
	for k, p := range list {
		twice := slices.ContainsFunc(list[:k], func(q api.Param) bool { return q.Name == p.Name })
		l.tell(twice, api.ErrTwice, p.At, append(slices.Clone(order), k, 0)...)
		l.typ(p.Type, append(slices.Clone(order), k, 1)...)
	}
}

// promises: step 6.
func (l *ledger) promises(i int, c api.Class) {
	for j, up := range l.book {
		if !up.Iface || !l.isAbove(up.Name, c.Name) {
			continue
		}
		for k, m := range up.Meths {
			has, there := l.dispatch(c.Name, signature(m))
			l.tell(!there, api.ErrImplements, c.At, 6, i, j, k)
			l.tell(there && base(has.Method.Result) != base(m.Result), api.ErrOverride, c.At, 6, i, j, k)
		}
	}
}
