package tests

import (
	"bytes"
	"go/ast"
	"go/format"
	"go/parser"
	"go/token"
	"os"
	"path/filepath"
	"slices"
	"strings"
	"testing"
)

// permitted are the imports of the language of the program.
var permitted = strings.Fields("bytes cmp container/heap errors iter maps math math/bits slices sort strconv strings sync sync/atomic unicode unicode/utf8")

// layers are the files of the program, one for each chapter.
var layers = strings.Fields("l01_complexes.go l02_pages.go l03_doubles.go l04_cones.go l05_couples.go l06_tensors.go " +
	"l07_bockstein.go l08_transfer.go l09_bars.go l10_products.go l11_console.go")

func TestFilesAreTheLayers(t *testing.T) {
	entries, err := os.ReadDir("../impl")
	if err != nil {
		t.Fatal(err)
	}
	var names []string
	for _, entry := range entries {
		names = append(names, entry.Name())
	}
	if !slices.Equal(names, layers) {
		t.Errorf("impl has %v", names)
	}
}

func TestFilesKeepToTheLanguage(t *testing.T) {
	for _, name := range layers {
		text, err := os.ReadFile(filepath.Join("../impl", name))
		if err != nil {
			t.Fatal(err)
		}
		if formatted, err := format.Source(text); err != nil || !bytes.Equal(formatted, text) {
			t.Errorf("%s is not in gofmt's layout", name)
		}
		if bytes.Contains(text, []byte("//go:")) || bytes.Contains(text, []byte("// +build")) {
			t.Errorf("%s has a directive or a build tag", name)
		}
		checkDeclarations(t, name, text)
	}
}

// checkDeclarations checks the imports and the lengths of the functions of a file.
func checkDeclarations(t *testing.T, name string, text []byte) {
	t.Helper()
	places := token.NewFileSet()
	file, err := parser.ParseFile(places, name, text, parser.ParseComments)
	if err != nil {
		t.Fatal(err)
	}
	for _, spec := range file.Imports {
		if path := strings.Trim(spec.Path.Value, "\""); !slices.Contains(permitted, path) {
			t.Errorf("%s imports %s", name, path)
		}
	}
	for _, declaration := range file.Decls {
		if f, ok := declaration.(*ast.FuncDecl); ok {
			if lines := places.Position(f.End()).Line - places.Position(f.Pos()).Line + 1; lines > 60 {
				t.Errorf("%s: %s has %d lines", name, f.Name.Name, lines)
			}
		}
	}
}
