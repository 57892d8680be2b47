package ssa_test

import (
	"hash/fnv"
	"slices"
	"strconv"
	"testing"

	"surety/api"
	"surety/ssa"
	"surety/syntax"
)

// runner runs a body. What an expression is comes of its parts' values and of how it looks, and nothing is known of it but that: so two runs are alike only if each expression has the same names' values. Which way is gone comes of the condition's value and of how many conditions there were.
type runner struct {
	values  map[string]uint64 // by name, or by version
	seed    int
	looks   int
	printed []uint64
	lost    string // a name without a value that was asked for
}

const mostLooks = 60

// asNames: a body whose names are taken as they are.
func asNames(list []api.Stmt) []ssa.Stmt {
	var out []ssa.Stmt
	for _, s := range list {
		out = append(out, ssa.Stmt{Kind: s.Kind, Name: s.Name, Exprs: s.Exprs, Body: asNames(s.Body), Else: asNames(s.Else)})
	}
	return out
}

// run: what a body prints and returns, and the name that was asked for and had no value.
func run(params []string, l []ssa.Stmt, seed int) ([]uint64, string) {
	r := &runner{values: map[string]uint64{}, seed: seed}
	for i, name := range params {
		r.values[name] = mixed("parameter " + strconv.Itoa(i))
	}
	r.block(l)
	return r.printed, r.lost
}

func mixed(text string, parts ...uint64) uint64 {
	h := fnv.New64a()
	h.Write([]byte(text))
	for _, part := range parts {
		h.Write([]byte(" " + strconv.FormatUint(part, 16)))
	}
	return h.Sum64()
}

func (r *runner) value(e api.Expr) uint64 {
	if e.Op == "var" {
		value, there := r.values[e.Name]
		if !there {
			r.lost = e.Name
		}
		return value
	}
	var parts []uint64
	for _, part := range e.Args {
		parts = append(parts, r.value(part))
	}
	return mixed(e.Op+" "+e.Name, parts...)
}

// holds: a condition, as long as there are looks left.
func (r *runner) holds(e api.Expr) bool {
	r.looks++
	return mixed(strconv.Itoa(r.seed), r.value(e), uint64(r.looks))>>7&1 == 1
}

// choose: all versions at once.
func (r *runner) choose(phis []ssa.Phi, left bool) {
	var chosen []uint64
	for _, p := range phis {
		from := p.Right
		if left {
			from = p.Left
		}
		value, there := r.values[from]
		if !there {
			r.lost = from
		}
		chosen = append(chosen, value)
	}
	for i, p := range phis {
		r.values[p.Out] = chosen[i]
	}
}

// block: does it come to its end?
func (r *runner) block(l []ssa.Stmt) bool {
	for _, s := range l {
		if !r.stmt(s) || r.looks > mostLooks {
			return false
		}
	}
	return true
}

func (r *runner) stmt(s ssa.Stmt) bool {
	switch s.Kind {
	case "let", "set":
		r.values[s.Name] = r.value(s.Exprs[0])
	case "if":
		left := r.holds(s.Exprs[0])
		way := s.Else
		if left {
			way = s.Body
		}
		if !r.block(way) {
			return false
		}
		r.choose(s.Phis, left)
	case "while":
		r.choose(s.Phis, true)
		for r.looked(s) {
			if !r.block(s.Body) {
				return false
			}
			r.choose(s.Phis, false)
		}
	default:
		var parts []uint64
		for _, e := range s.Exprs {
			parts = append(parts, r.value(e))
		}
		r.printed = append(r.printed, mixed(s.Kind+" "+s.Name, parts...))
		return s.Kind != "return"
	}
	return true
}

// looked: a while's condition and its invariants.
func (r *runner) looked(s ssa.Stmt) bool {
	for _, e := range s.Exprs[1:] {
		r.printed = append(r.printed, mixed("invariant", r.value(e)))
	}
	return r.holds(s.Exprs[0])
}

// wantAlikeRuns: with versions a body does what it does with names (P14.4).
func wantAlikeRuns(t *testing.T, b body, got []ssa.Stmt) {
	t.Helper()
	var versions []string
	for _, name := range b.params {
		versions = append(versions, ssa.Version(name))
	}
	for seed := range 6 {
		want, lost := run(b.params, asNames(b.list), seed)
		if lost != "" {
			t.Fatalf("the test asks for %s", lost)
		}
		does, lost := run(versions, got, seed)
		if lost != "" || !slices.Equal(does, want) {
			t.Errorf("run with versions %s does another thing than with names (asked for in vain: %q)", syntax.Print(api.Program{Main: b.list}), lost)
		}
	}
}

// P14.4: a body whose names change places in a loop, and what it prints when it is run.
func TestRun(t *testing.T) {
	for _, text := range []string{
		"let x = 1; let y = 2; let z = 0; while (z < i) { let w = x; x = y; y = w; z = z + 1; if (p) { print x; } } print x; print y;",
		"let x = 1; if (p) { x = 2; if (q) { return x; } } print x; while (x < i) { x = x + 1; if (x == j) { return x; } } print x;",
		"let x = 1; while (p) { x = x + 1; while (q) { let y = x; x = y * y; if (x > j) { y = 2; } print y; } print x; } print x;",
	} {
		b := of(t, text)
		wantAlikeRuns(t, b, b.converted())
	}
}

// P14.4: of the test's own runs: they tell names apart.
func TestRunsDiffer(t *testing.T) {
	x, y := of(t, "let x = 1; let y = 2; print x;"), of(t, "let x = 1; let y = 2; print y;")
	a, _ := run(x.params, asNames(x.list), 0)
	b, _ := run(y.params, asNames(y.list), 0)
	if slices.Equal(a, b) {
		t.Errorf("a run that prints x and one that prints y are alike")
	}
}
