// Package rules holds the program's own text against the rules of its language.
package rules

import (
	"bytes"
	"go/ast"
	"go/format"
	"go/parser"
	"go/token"
	"io/fs"
	"os"
	"path/filepath"
	"slices"
	"strconv"
	"strings"
	"testing"
)

// layers are the packages in their order: one calls those ahead of it alone.
var layers = []string{
	"api", "sha2", "field", "scalar", "point", "eddsa", "vrf", "wire", "disk", "wal", "store", "tree", "grow",
	"label", "keyring", "directory", "publisher", "verify", "json", "http", "limit", "serve", "agent", "evidence", "world",
}

var library = []string{
	"bytes", "cmp", "container/heap", "errors", "iter", "maps", "math", "math/bits", "slices", "sort", "strconv",
	"strings", "sync", "sync/atomic", "unicode", "unicode/utf8",
}

var syncNames = []string{"Mutex", "RWMutex", "WaitGroup", "Once"}

const mostLines = 60

type source struct {
	path string // from the project's root
	text []byte
	file *ast.File
	set  *token.FileSet
}

// sources are the program's files: no tests, and nothing of what is laid beside it.
func sources(t *testing.T) []source {
	t.Helper()
	var out []source
	err := filepath.WalkDir("..", func(path string, d fs.DirEntry, err error) error {
		if err != nil {
			return err
		}
		if d.IsDir() && path != ".." && (strings.HasPrefix(d.Name(), ".") || d.Name() == "sharedtests") {
			return filepath.SkipDir
		}
		name, _ := filepath.Rel("..", path)
		if d.IsDir() || strings.HasSuffix(name, "_test.go") || !strings.Contains(name, "/") {
			return nil
		}
		if !strings.HasSuffix(name, ".go") {
			t.Errorf("%s: a file beside the Go files", name)
			return nil
		}
		s := source{path: name, set: token.NewFileSet()}
		if s.text, err = os.ReadFile(path); err != nil {
			return err
		}
		s.file, err = parser.ParseFile(s.set, path, s.text, parser.ParseComments)
		out = append(out, s)
		return err
	})
	if err != nil {
		t.Fatal(err)
	}
	return out
}

func (s source) line(n ast.Node) int { return s.set.Position(n.Pos()).Line }

func TestEveryLayerStands(t *testing.T) {
	found := map[string]string{}
	for _, s := range sources(t) {
		found[filepath.Dir(s.path)] = s.file.Name.Name
	}
	for _, l := range layers {
		if found[l] != l {
			t.Errorf("package %s: %q", l, found[l])
		}
	}
}

func TestImports(t *testing.T) {
	for _, s := range sources(t) {
		for _, i := range s.file.Imports {
			path, _ := strconv.Unquote(i.Path.Value)
			own, mine := strings.CutPrefix(path, "beacon/")
			if !mine && !slices.Contains(library, path) {
				t.Errorf("%s: imports %s", s.path, path)
			}
			here, there := slices.Index(layers, filepath.Dir(s.path)), slices.Index(layers, own)
			if mine && here >= 0 && there >= here {
				t.Errorf("%s: imports %s, which does not stand ahead of it", s.path, path)
			}
		}
	}
}

func TestNamesOfTheLibrary(t *testing.T) {
	for _, s := range sources(t) {
		ast.Inspect(s.file, func(n ast.Node) bool {
			switch x := n.(type) {
			case *ast.SelectorExpr:
				p, ok := x.X.(*ast.Ident)
				if ok && (p.Name == "sync" && !slices.Contains(syncNames, x.Sel.Name) || p.Name == "iter" && strings.HasPrefix(x.Sel.Name, "Pull")) {
					t.Errorf("%s:%d: %s.%s", s.path, s.line(n), p.Name, x.Sel.Name)
				}
			case *ast.CallExpr:
				if f, ok := x.Fun.(*ast.Ident); ok && (f.Name == "print" || f.Name == "println") {
					t.Errorf("%s:%d: %s", s.path, s.line(n), f.Name)
				}
			}
			return true
		})
	}
}

func TestLayoutAndDirectives(t *testing.T) {
	for _, s := range sources(t) {
		if laid, err := format.Source(s.text); err != nil || !bytes.Equal(laid, s.text) {
			t.Errorf("%s: not in gofmt's layout (%v)", s.path, err)
		}
		for _, g := range s.file.Comments {
			for _, c := range g.List {
				if strings.HasPrefix(c.Text, "//go:") || strings.HasPrefix(c.Text, "// +build") {
					t.Errorf("%s:%d: %s", s.path, s.line(c), c.Text)
				}
			}
		}
		for _, d := range s.file.Decls {
			if f, ok := d.(*ast.FuncDecl); ok {
				if n := s.set.Position(f.End()).Line - s.line(f) + 1; n > mostLines {
					t.Errorf("%s:%d: %s has %d lines", s.path, s.line(f), f.Name.Name, n)
				}
			}
		}
	}
}

// No stage so far asks for a variable that start-up fills: those at package level are tables and errors.
func TestPackageLevel(t *testing.T) {
	for _, s := range sources(t) {
		for _, d := range s.file.Decls {
			if f, ok := d.(*ast.FuncDecl); ok && f.Recv == nil && f.Name.Name == "init" {
				t.Errorf("%s:%d: func init", s.path, s.line(f))
			}
			g, ok := d.(*ast.GenDecl)
			if !ok || g.Tok != token.VAR {
				continue
			}
			for _, spec := range g.Specs {
				v := spec.(*ast.ValueSpec)
				if len(v.Values) != len(v.Names) {
					t.Errorf("%s:%d: a variable without a value of its own", s.path, s.line(v))
				}
				for _, x := range v.Values {
					if !mayStart(x) {
						t.Errorf("%s:%d: no starting value for package level", s.path, s.line(x))
					}
				}
			}
		}
	}
}

// mayStart: a literal that is neither a map nor a function nor a text or float of its own, or an error by errors.New.
func mayStart(x ast.Expr) bool {
	switch v := x.(type) {
	case *ast.CompositeLit:
		_, isMap := v.Type.(*ast.MapType)
		return !isMap
	case *ast.CallExpr:
		f, ok := v.Fun.(*ast.SelectorExpr)
		if !ok {
			return false
		}
		p, ok := f.X.(*ast.Ident)
		return ok && p.Name == "errors" && f.Sel.Name == "New"
	case *ast.BasicLit:
		return v.Kind == token.INT || v.Kind == token.CHAR
	}
	return false
}
