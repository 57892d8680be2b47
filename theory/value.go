package theory

import (
	"strconv"
	"strings"

	"surety/api"
	"surety/arith"
)

// reading is a model as it is read: of each name the place of what counts.
type reading struct {
	model api.Model
	vars  map[string]int
	bools map[string]int
	funs  map[string]int // by entryKey
}

// Value: a term's in a model.
func Value(t api.Form, m api.Model) (arith.Int, api.Errno) {
	if err := IsTerm(t); err != api.OK {
		return arith.Int{}, err
	}
	return read(m).value(t)
}

// True: is a formula, in a model?
func True(f api.Form, m api.Model) (bool, api.Errno) {
	if err := Sound(f); err != api.OK {
		return false, err
	}
	return read(m).truth(f)
}

func read(m api.Model) *reading {
	r := &reading{model: m, vars: firsts(m.Vars), bools: firsts(m.Bools), funs: map[string]int{}}
	for i, e := range m.Funs {
		key := entryKey(e.Fun, e.Args)
		if _, ok := r.funs[key]; !ok {
			r.funs[key] = i
		}
	}
	return r
}

// firsts: of each name the first place.
func firsts(list []api.Value) map[string]int {
	places := map[string]int{}
	for i, v := range list {
		if _, ok := places[v.Name]; !ok {
			places[v.Name] = i
		}
	}
	return places
}

// entryKey: a text that two functions of arguments' texts have in common just if they are the same. Names and texts may be anything, so their lengths stand ahead of them.
func entryKey(fun string, args []string) string {
	var b strings.Builder
	writeMeasured(&b, fun)
	for _, arg := range args {
		writeMeasured(&b, arg)
	}
	return b.String()
}

// writeMeasured: a text, and how long it is.
func writeMeasured(b *strings.Builder, text string) {
	b.WriteString(strconv.Itoa(len(text)))
	b.WriteByte(':')
	b.WriteString(text)
}

// value: of what is known to be a term.
func (r *reading) value(t api.Form) (arith.Int, api.Errno) {
	args, err := results(t.Args, r.value)
	if err != api.OK {
		return arith.Int{}, err
	}
	switch t.Kind {
	case api.TVar:
		return r.variable(t.Name), api.OK
	case api.TNum:
		return arith.Parse(t.Name)
	case api.TAdd:
		return arith.Sum(args...)
	case api.TMul:
		by, err := arith.Parse(t.Name)
		if err != api.OK {
			return arith.Int{}, err
		}
		return arith.Mul(by, args[0])
	}
	return r.function(t.Name, args), api.OK
}

// truth: of what is known to be a formula.
func (r *reading) truth(f api.Form) (bool, api.Errno) {
	switch f.Kind {
	case api.FBool:
		at, ok := r.bools[f.Name]
		return ok && r.model.Bools[at].Num == "1", api.OK
	case api.FLe, api.FEq:
		args, err := results(f.Args, r.value)
		if err != api.OK {
			return false, err
		}
		order := arith.Cmp(args[0], args[1])
		return order == 0 || order < 0 && f.Kind == api.FLe, api.OK
	}
	args, err := results(f.Args, r.truth)
	if err != api.OK {
		return false, err
	}
	return joined(f.Kind, args), api.OK
}

// joined: what a formula that is made of formulas says, if these say so much.
func joined(kind int, args []bool) bool {
	switch kind {
	case api.FNot:
		return !args[0]
	case api.FImp:
		return !args[0] || args[1]
	case api.FIff:
		return args[0] == args[1]
	}
	for _, is := range args {
		if is == (kind == api.FOr) {
			return is
		}
	}
	return kind == api.FAnd
}

// results: of all parts, from the left, or the first error.
func results[T any](parts []api.Form, of func(api.Form) (T, api.Errno)) ([]T, api.Errno) {
	list := make([]T, len(parts))
	for i, f := range parts {
		x, err := of(f)
		if err != api.OK {
			return nil, err
		}
		list[i] = x
	}
	return list, api.OK
}

func (r *reading) variable(name string) arith.Int {
	at, ok := r.vars[name]
	if !ok {
		return arith.Int{}
	}
	return number(r.model.Vars[at].Num)
}

func (r *reading) function(name string, args []arith.Int) arith.Int {
	at, ok := r.funs[entryKey(name, texts(args))]
	if !ok {
		return arith.Int{}
	}
	return number(r.model.Funs[at].Num)
}

func texts(numbers []arith.Int) []string {
	list := make([]string, len(numbers))
	for i, n := range numbers {
		list[i] = n.Text()
	}
	return list
}

// number: of a text; 0, if it is no number's.
func number(text string) arith.Int {
	n, _ := arith.Parse(text)
	return n
}
