// Package layers holds the tests of the program's form: which packages may call which.
package layers

import (
	"go/ast"
	"go/parser"
	"go/token"
	"os"
	"path/filepath"
	"slices"
	"strconv"
	"strings"
	"testing"
)

const module = "fettle/"

// library: the packages of Go's library that the program may import.
var library = strings.Fields("bytes cmp container/heap errors iter maps math math/bits slices sort strconv strings sync sync/atomic unicode unicode/utf8")

// calls: of each layer the packages that it may import, by the map of the document.
var calls = []struct{ name, below string }{
	{"api", ""},
	{"octet", ""},
	{"crc", ""},
	{"extent", "api"},
	{"disk", "api"},
	{"journal", "api octet crc disk"},
	{"tx", "api journal"},
	{"header", "api octet"},
	{"refs", "api octet header tx"},
	{"maps", "api octet header tx"},
	{"image", "api octet disk header journal maps refs tx"},
	{"snapshot", "api header image octet tx"},
	{"audit", "api disk header image journal maps octet snapshot"},
	{"mbr", "api extent octet"},
	{"gpt", "api crc extent octet"},
	{"parts", "api crc extent gpt mbr"},
	{"fat", "api extent octet"},
	{"fatdir", "api extent fat octet"},
	{"ext", "api extent octet"},
	{"extdir", "api ext extent octet"},
	{"resize", "api ext extdir extent fat fatdir octet parts"},
	{"plan", "api extent image maps parts resize"},
	{"trim", "api audit disk gpt image plan resize snapshot"},
	{"rawimage", ""}, // for tests alone: it has the format by itself
	{"rawguest", ""}, // likewise
	{"console", "api crc extent header image snapshot audit mbr gpt parts fat fatdir ext extdir resize plan trim"}, // its chapter allows fewer than the map
}

// sources: a package's files, without its tests.
func sources(t *testing.T, name string) []*ast.File {
	t.Helper()
	entries, err := os.ReadDir(filepath.Join("..", name))
	if err != nil {
		t.Fatal(err)
	}
	var files []*ast.File
	for _, e := range entries {
		if strings.HasSuffix(e.Name(), "_test.go") {
			continue
		}
		if !strings.HasSuffix(e.Name(), ".go") {
			t.Errorf("%s/%s: not a Go file", name, e.Name())
			continue
		}
		f, err := parser.ParseFile(token.NewFileSet(), filepath.Join("..", name, e.Name()), nil, parser.ParseComments)
		if err != nil {
			t.Fatal(err)
		}
		files = append(files, f)
	}
	if len(files) == 0 {
		t.Errorf("%s: no Go file", name)
	}
	return files
}

func isLayer(name string) bool {
	for _, c := range calls {
		if c.name == name {
			return true
		}
	}
	return false
}

func checkImport(t *testing.T, name, below, path string) {
	t.Helper()
	inner, own := strings.CutPrefix(path, module)
	switch {
	case !own && !slices.Contains(library, path):
		t.Errorf("%s imports %s, which isn't of the language", name, path)
	case own && isLayer(inner) && !slices.Contains(strings.Fields(below), inner):
		t.Errorf("%s imports %s, which the map doesn't allow", name, inner)
	}
}

func TestImports(t *testing.T) {
	for _, c := range calls {
		for _, f := range sources(t, c.name) {
			for _, im := range f.Imports {
				path, err := strconv.Unquote(im.Path.Value)
				if err != nil {
					t.Fatal(err)
				}
				checkImport(t, c.name, c.below, path)
			}
		}
	}
}

func TestNoLinesToTheCompiler(t *testing.T) {
	for _, c := range calls {
		for _, f := range sources(t, c.name) {
			for _, g := range f.Comments {
				for _, line := range g.List {
					if strings.HasPrefix(line.Text, "//go:") || strings.HasPrefix(line.Text, "// +build") {
						t.Errorf("%s: %s", c.name, line.Text)
					}
				}
			}
		}
	}
}
