package ssa_test

import (
	"maps"
	"slices"
	"strings"
	"testing"

	"surety/api"
	"surety/ssa"
	"surety/syntax"
)

// made: of each name that is there the versions that may have been made last, as the way was; nil: no way leads there.
type made map[string]map[string]bool

// walker goes all ways through a body with versions by the chapter's words.
type walker struct {
	t      *testing.T
	text   string
	all    map[string]bool // the versions that are made anywhere
	looked bool            // of whiles whose ways aren't all known yet nothing is told
}

// wantRight: what Convert answers of a body is what the chapter asks for (P14.2, P14.3).
func wantRight(t *testing.T, b body, got []ssa.Stmt) {
	t.Helper()
	w := walker{t: t, text: short(strings.Join(b.params, ", ") + ": " + syntax.Print(api.Program{Main: b.list})), all: map[string]bool{}, looked: true}
	ways, there := made{}, map[string]bool{}
	for _, name := range b.params {
		there[name] = true
		ways[name] = map[string]bool{name + "#0": true}
		w.once(name, name+"#0")
	}
	w.same(got, b.list)
	w.eachOnce(got)
	w.block(got, ways, there)
	if !alike(ssa.Erase(got), b.list) {
		t.Errorf("Erase of %s isn't the body: %s", shown(got), w.text)
	}
}

func (w *walker) fail(what string, is any) {
	w.t.Helper()
	if w.looked {
		w.t.Errorf("%s: %v; in %s", what, is, w.text)
	}
}

// version: is it one of that name?
func version(name, text string) bool {
	number, is := strings.CutPrefix(text, name+"#")
	return is && number != "" && strings.Trim(number, "0123456789") == "" && (number == "0" || number[0] != '0')
}

// once: a version that is made.
func (w *walker) once(name, text string) {
	if w.all[text] || !version(name, text) {
		w.fail("made twice, or no version of "+name, text)
	}
	w.all[text] = true
}

func (w *walker) eachOnce(l []ssa.Stmt) {
	for _, s := range l {
		if s.Kind == "let" || s.Kind == "set" {
			name, _, _ := strings.Cut(s.Name, "#")
			w.once(name, s.Name)
		}
		for _, p := range s.Phis {
			w.once(p.Name, p.Out)
		}
		w.eachOnce(s.Body)
		w.eachOnce(s.Else)
	}
}

// same: the statements are the body's, but for versions and Phis.
func (w *walker) same(got []ssa.Stmt, list []api.Stmt) {
	if len(got) != len(list) {
		w.fail("statements", len(got))
		return
	}
	for i, s := range list {
		g := got[i]
		name := g.Name
		if s.Kind == "let" || s.Kind == "set" {
			name, _, _ = strings.Cut(name, "#")
		}
		if g.Kind != s.Kind || name != s.Name || g.At != s.At || !alike(g.Type, s.Type) || len(g.Exprs) != len(s.Exprs) {
			w.fail("another statement", shownOne(g))
			continue
		}
		if s.Kind != "if" && s.Kind != "while" && len(g.Phis) > 0 {
			w.fail("Phis where none may be", g.Phis)
		}
		for k, e := range s.Exprs {
			w.sameExpr(g.Exprs[k], e)
		}
		w.same(g.Body, s.Body)
		w.same(g.Else, s.Else)
	}
}

func (w *walker) sameExpr(got, e api.Expr) {
	name := got.Name
	if e.Op == "var" {
		name, _, _ = strings.Cut(name, "#")
	}
	if got.Op != e.Op || name != e.Name || got.At != e.At || !alike(got.Type, e.Type) || len(got.Args) != len(e.Args) {
		w.fail("another expression", syntax.Text(got))
		return
	}
	for i, part := range e.Args {
		w.sameExpr(got.Args[i], part)
	}
}

// vars: each names the version that was made last on every way.
func (w *walker) vars(list []api.Expr, ways made) {
	for _, e := range list {
		if e.Op == "var" {
			name, _, _ := strings.Cut(e.Name, "#")
			w.last("var", name, e.Name, ways)
		}
		w.vars(e.Args, ways)
	}
}

// last: where no way leads any version of the name will do.
func (w *walker) last(what, name, text string, ways made) {
	if ways == nil && (!w.all[text] || !version(name, text)) || ways != nil && (len(ways[name]) != 1 || !ways[name][text]) {
		w.fail(what+" that wasn't made last", text)
	}
}

func (ways made) with(name, text string) made {
	if ways == nil {
		return nil
	}
	out := maps.Clone(ways)
	out[name] = map[string]bool{text: true}
	return out
}

// and: what there is where ways meet, of names that are there on both.
func (ways made) and(others made) made {
	if ways == nil || others == nil {
		return maps.Clone(map[bool]made{true: others, false: ways}[ways == nil])
	}
	out := made{}
	for name, versions := range ways {
		if more, both := others[name]; both {
			out[name] = maps.Clone(versions)
			maps.Copy(out[name], more)
		}
	}
	return out
}

// only: of the names that were there ahead.
func (ways made) only(there map[string]bool) made {
	if ways == nil {
		return nil
	}
	out := made{}
	for name := range there {
		out[name] = ways[name]
	}
	return out
}

func sameWays(a, b made) bool {
	return (a == nil) == (b == nil) && maps.EqualFunc(a, b, func(x, y map[string]bool) bool { return maps.Equal(x, y) })
}

// block: the ways at its end.
func (w *walker) block(l []ssa.Stmt, ways made, there map[string]bool) made {
	ahead := there
	there = maps.Clone(there)
	for _, s := range l {
		switch s.Kind {
		case "if":
			ways = w.choice(s, ways, there)
			continue
		case "while":
			ways = w.loop(s, ways, there)
			continue
		}
		w.vars(s.Exprs, ways)
		switch s.Kind {
		case "return":
			ways = nil
		case "let", "set":
			name, _, _ := strings.Cut(s.Name, "#")
			there[name] = true
			ways = ways.with(name, s.Name)
		}
	}
	return ways.only(ahead)
}

func (w *walker) choice(s ssa.Stmt, ways made, there map[string]bool) made {
	w.vars(s.Exprs, ways)
	left, right := w.block(s.Body, ways, there), w.block(s.Else, ways, there)
	var want []string
	for name := range there {
		if left != nil && right != nil && !maps.Equal(left[name], right[name]) {
			want = append(want, name)
		}
	}
	w.phis(s.Phis, want)
	out := left.and(right)
	for _, p := range s.Phis {
		w.last("Left", p.Name, p.Left, left)
		w.last("Right", p.Name, p.Right, right)
		out = out.with(p.Name, p.Out)
	}
	return out
}

// loop: its body is gone through till no further way comes of it.
func (w *walker) loop(s ssa.Stmt, ahead made, there map[string]bool) made {
	sets := map[string]bool{}
	setsOf(s.Body, sets)
	var want []string
	for name := range sets {
		if there[name] {
			want = append(want, name)
		}
	}
	w.phis(s.Phis, want)
	for _, p := range s.Phis {
		w.last("Left", p.Name, p.Left, ahead)
	}
	looked := w.looked
	w.looked = false
	ways := ahead
	for {
		more := ways.and(w.block(s.Body, withPhis(ways, s.Phis), there))
		if ways == nil || sameWays(ways, more) {
			break
		}
		ways = more
	}
	w.looked = looked
	ways = withPhis(ways, s.Phis)
	w.vars(s.Exprs, ways)
	end := w.block(s.Body, ways, there)
	for _, p := range s.Phis {
		if end == nil && p.Right != "" {
			w.fail("Right where the end isn't reached", p.Right)
		}
		if end != nil {
			w.last("Right", p.Name, p.Right, end)
		}
	}
	return ways
}

func withPhis(ways made, phis []ssa.Phi) made {
	for _, p := range phis {
		ways = ways.with(p.Name, p.Out)
	}
	return ways
}

func setsOf(l []ssa.Stmt, sets map[string]bool) {
	for _, s := range l {
		if s.Kind == "set" {
			name, _, _ := strings.Cut(s.Name, "#")
			sets[name] = true
		}
		setsOf(s.Body, sets)
		setsOf(s.Else, sets)
	}
}

// phis: one for each of these names, in their order.
func (w *walker) phis(phis []ssa.Phi, want []string) {
	var got []string
	for _, p := range phis {
		got = append(got, p.Name)
	}
	slices.Sort(want)
	if !slices.Equal(got, want) {
		w.fail("Phis", got)
		w.fail("wanted ones", want)
	}
}
