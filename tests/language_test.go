package tests

import (
	"bytes"
	"go/ast"
	"go/format"
	"go/parser"
	"go/token"
	"os"
	"path/filepath"
	"slices"
	"strings"
	"testing"
)

const maxFunctionLines = 60

// TestSourcesKeepToTheLanguage checks what ../shared/LANGUAGE.md says of imports, directives, the
// length of functions and the layout.
func TestSourcesKeepToTheLanguage(t *testing.T) {
	files, err := filepath.Glob("../impl/*")
	if err != nil || len(files) == 0 {
		t.Fatal("no sources", err)
	}
	for _, name := range files {
		source, err := os.ReadFile(name)
		if err != nil || !strings.HasSuffix(name, ".go") {
			t.Errorf("%s is no Go file: %v", name, err)
			continue
		}
		checkSource(t, name, source)
	}
}

func checkSource(t *testing.T, name string, source []byte) {
	set := token.NewFileSet()
	file, err := parser.ParseFile(set, name, source, parser.ParseComments)
	if err != nil {
		t.Fatal(err)
	}
	if laid, err := format.Source(source); err != nil || !bytes.Equal(laid, source) {
		t.Errorf("%s is not in gofmt's layout", name)
	}
	for _, i := range file.Imports {
		if !slices.Contains(allowedImports(), strings.Trim(i.Path.Value, "\"")) {
			t.Errorf("%s imports %s", name, i.Path.Value)
		}
	}
	for _, group := range file.Comments {
		for _, c := range group.List {
			if strings.HasPrefix(c.Text, "//go:") || strings.HasPrefix(c.Text, "// +build") {
				t.Errorf("%s has the directive %s", name, c.Text)
			}
		}
	}
	for _, d := range file.Decls {
		f, ok := d.(*ast.FuncDecl)
		if !ok {
			continue
		}
		if n := set.Position(f.End()).Line - set.Position(f.Pos()).Line + 1; n > maxFunctionLines {
			t.Errorf("%s: %s has %d lines", name, f.Name.Name, n)
		}
	}
}

func allowedImports() []string {
	return []string{
		"bytes", "cmp", "container/heap", "errors", "iter", "maps", "math", "math/bits", "slices", "sort", "strconv", "strings",
		"sync", "sync/atomic", "unicode", "unicode/utf8",
	}
}
