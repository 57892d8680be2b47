package ssa_test

import (
	"math/rand"
	"slices"
	"strings"
	"testing"

	"surety/ssa"
)

// tally: how much of what was drawn there was.
type tally map[string]int

func (c tally) add(l []ssa.Stmt) {
	ended := false
	for _, s := range l {
		c[s.Kind]++
		if ended {
			c["behind a return "+s.Kind]++
		}
		ended = ended || s.Kind == "return"
		for _, p := range s.Phis {
			c["Phi of "+s.Kind]++
			if p.Right == "" {
				c["no Right"]++
			}
			if p.Right == p.Out {
				c["itself"]++
			}
		}
		c.add(s.Body)
		c.add(s.Else)
	}
}

// P14.1 to P14.4: drawn bodies: each var's version, the Phis, the versions that are made, Erase, Versions and runs.
func TestDrawn(t *testing.T) {
	r := rand.New(rand.NewSource(1))
	count := tally{}
	for range 1000 {
		for _, b := range bodies(t, drawn(r)) {
			wantAll(t, b)
			count.add(b.converted())
		}
		if t.Failed() {
			return
		}
	}
	for _, what := range []string{
		"let", "set", "if", "while", "return", "print", "assert", "field", "elem", "do", "Phi of if", "Phi of while", "no Right", "itself",
		"behind a return set", "behind a return if", "behind a return while",
	} {
		if count[what] < 10 {
			t.Errorf("%q was drawn %d times", what, count[what])
		}
	}
}

func wantAll(t *testing.T, b body) {
	t.Helper()
	got := b.converted()
	wantRight(t, b, got)
	wantVersions(t, got)
	wantAlikeRuns(t, b, got)
}

// blocks: all texts of so many statements, within others or not.
func blocks(count int, known map[int][]string) []string {
	if all, done := known[count]; done {
		return all
	}
	var all []string
	for first := 1; first <= count; first++ {
		for _, s := range statements(first, known) {
			for _, rest := range blocks(count-first, known) {
				all = append(all, s+rest)
			}
		}
	}
	known[count] = all
	return all
}

// statements: one each, of so many in all.
func statements(count int, known map[int][]string) []string {
	var all []string
	if count == 1 {
		all = []string{"x = y; ", "y = x + 1; ", "return y; ", "let z = x; z = z; "}
	}
	for left := range count {
		for _, body := range blocks(left, known) {
			for _, other := range blocks(count-1-left, known) {
				all = append(all, "if (p) { "+body+"} else { "+other+"} ")
			}
		}
	}
	for _, body := range blocks(count-1, known) {
		all = append(all, "while (x < y) { "+body+"} ")
	}
	return all
}

// P14.1 to P14.4: all small bodies.
func TestAllSmall(t *testing.T) {
	known := map[int][]string{0: {""}}
	tried := 0
	for count := range 5 {
		var group []string
		all := blocks(count, known)
		for i, text := range all {
			if strings.Count(text, "let z") > 1 && twice(text) {
				continue
			}
			group = append(group, "let x = i; let y = j; "+text+"print x; return y;")
			if len(group) == 60 || i == len(all)-1 {
				tried += wantGroup(t, group)
				group = nil
			}
		}
		if len(group) > 0 {
			tried += wantGroup(t, group)
		}
		if t.Failed() {
			return
		}
	}
	if tried < 5000 {
		t.Errorf("%d bodies", tried)
	}
}

// twice: is there a let where its name is there already?
func twice(text string) bool {
	open := []bool{false}
	for _, word := range strings.Fields(text) {
		switch {
		case strings.HasSuffix(word, "{"):
			open = append(open, open[len(open)-1])
		case word == "}":
			open = open[:len(open)-1]
		case word == "let":
			if open[len(open)-1] {
				return true
			}
			open[len(open)-1] = true
		}
	}
	return false
}

// wantGroup: bodies as methods of one class, since reading is what takes longest.
func wantGroup(t *testing.T, texts []string) int {
	t.Helper()
	var program strings.Builder
	program.WriteString("class A { ")
	for i, text := range texts {
		program.WriteString("def f" + strings.Repeat("a", i/26) + string(rune('a'+i%26)) + "(i: int, j: int, p: bool): int { " + text + " }\n")
	}
	program.WriteString("} main { }")
	all := bodies(t, program.String())
	for _, b := range all {
		wantAll(t, b)
	}
	return len(all) - 1
}

// wantVersions: those that statements make, in their order (P14.3).
func wantVersions(t *testing.T, l []ssa.Stmt) {
	t.Helper()
	if got, want := ssa.Versions(l), versionsOf(l); !slices.Equal(got, want) {
		t.Errorf("Versions of %s: %v; want %v", short(shown(l)), got, want)
	}
}

func versionsOf(l []ssa.Stmt) []string {
	var list, outs []string
	if len(l) == 0 {
		return nil
	}
	for _, p := range l[0].Phis {
		outs = append(outs, p.Out)
	}
	switch s := l[0]; s.Kind {
	case "let", "set":
		list = []string{s.Name}
	case "while":
		list = append(outs, versionsOf(s.Body)...)
	case "if":
		list = slices.Concat(versionsOf(s.Body), versionsOf(s.Else), outs)
	}
	return append(list, versionsOf(l[1:])...)
}
