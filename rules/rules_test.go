// Package rules has tests alone: that the program's files keep to the language that it is written in.
package rules

import (
	"go/ast"
	"go/parser"
	"go/token"
	"os"
	"path/filepath"
	"slices"
	"strconv"
	"strings"
	"testing"
)

var allowed = []string{"bytes", "cmp", "container/heap", "errors", "iter", "maps", "math", "math/bits", "slices", "sort", "strconv", "strings", "sync", "sync/atomic", "unicode", "unicode/utf8"}

// packages: those whose files are the program.
var packages = []string{"api", "arith", "ratio", "linear", "sat", "euf", "simplex", "lia", "theory", "smt", "lex", "syntax", "classes", "typing", "ssa", "embed", "check", "interp", "driver"}

// programFiles: the packages' files without the tests.
func programFiles(t *testing.T) []string {
	var list []string
	for _, name := range packages {
		entries, err := os.ReadDir(filepath.Join("..", name))
		if err != nil {
			t.Fatal(err)
		}
		for _, e := range entries {
			if !strings.HasSuffix(e.Name(), "_test.go") {
				list = append(list, filepath.Join("..", name, e.Name()))
			}
		}
	}
	return list
}

func parse(t *testing.T, path string) *ast.File {
	file, err := parser.ParseFile(token.NewFileSet(), path, nil, parser.ParseComments)
	if err != nil {
		t.Fatal(err)
	}
	return file
}

// In the packages' folders there are Go files alone.
func TestOnlyGoFiles(t *testing.T) {
	for _, path := range programFiles(t) {
		if filepath.Ext(path) != ".go" {
			t.Errorf("%s: no Go file", path)
		}
	}
}

// Packages import the project's own, and a few of the library.
func TestImports(t *testing.T) {
	for _, path := range programFiles(t) {
		if filepath.Ext(path) != ".go" {
			continue
		}
		for _, spec := range parse(t, path).Imports {
			name, err := strconv.Unquote(spec.Path.Value)
			if err != nil || !strings.HasPrefix(name, "surety/") && !slices.Contains(allowed, name) {
				t.Errorf("%s imports %s", path, spec.Path.Value)
			}
		}
	}
}

// There is neither a line for the tools nor a build tag.
func TestNoToolLines(t *testing.T) {
	for _, path := range programFiles(t) {
		if filepath.Ext(path) != ".go" {
			continue
		}
		for _, group := range parse(t, path).Comments {
			for _, line := range group.List {
				if strings.HasPrefix(line.Text, "//go:") || strings.HasPrefix(line.Text, "// +build") {
					t.Errorf("%s: %s", path, line.Text)
				}
			}
		}
	}
}
