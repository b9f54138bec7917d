package tests

import (
	"bytes"
	"go/ast"
	"go/format"
	"go/parser"
	"go/token"
	"os"
	"path/filepath"
	"strings"
	"testing"
)

// TestLanguage looks for what the program's language leaves out: other
// imports, other layouts, longer functions, directives, and variables of the
// package level without a value.
func TestLanguage(t *testing.T) {
	files, err := filepath.Glob("../impl/*")
	if err != nil || len(files) != 8 {
		t.Fatalf("impl has one file for each layer: got %v, %v", files, err)
	}
	for _, name := range files {
		text, err := os.ReadFile(name)
		if err != nil {
			t.Fatal(err)
		}
		if laid, err := format.Source(text); err != nil || !bytes.Equal(laid, text) {
			t.Errorf("%s does not have gofmt's layout: %v", name, err)
		}
		if bytes.Contains(text, []byte("//go:")) || bytes.Contains(text, []byte("// +build")) {
			t.Errorf("%s has a directive", name)
		}
		fset := token.NewFileSet()
		file, err := parser.ParseFile(fset, name, text, 0)
		if err != nil {
			t.Fatal(err)
		}
		lookAtFile(t, fset, file)
	}
}

func lookAtFile(t *testing.T, fset *token.FileSet, file *ast.File) {
	allowed := " bytes cmp container/heap errors iter maps math math/bits slices sort strconv strings sync sync/atomic unicode unicode/utf8 "
	for _, i := range file.Imports {
		if path := strings.Trim(i.Path.Value, `"`); !strings.Contains(allowed, " "+path+" ") {
			t.Errorf("%s: import of %s", fset.Position(i.Pos()), path)
		}
	}
	for _, d := range file.Decls {
		switch x := d.(type) {
		case *ast.FuncDecl:
			if lines := fset.Position(x.End()).Line - fset.Position(x.Pos()).Line + 1; lines > 60 {
				t.Errorf("%s: %s has %d lines", fset.Position(x.Pos()), x.Name.Name, lines)
			}
		case *ast.GenDecl:
			for _, s := range x.Specs {
				if v, ok := s.(*ast.ValueSpec); ok && x.Tok == token.VAR && len(v.Values) == 0 {
					t.Errorf("%s: a variable without a value", fset.Position(v.Pos()))
				}
			}
		}
	}
}
