package tests

import (
	"bytes"
	"go/ast"
	"go/format"
	"go/parser"
	"go/token"
	"os"
	"path/filepath"
	"strconv"
	"strings"
	"testing"
)

const allowedImports = " bytes cmp container/heap errors iter maps math math/bits slices sort strconv strings sync sync/atomic unicode unicode/utf8 "

const maxLines = 60

func programFiles(t *testing.T) []string {
	t.Helper()
	files, err := filepath.Glob("../impl/*.go")
	if err != nil || len(files) == 0 {
		t.Fatalf("no files of the program: %v", err)
	}
	return files
}

func TestLayoutIsGofmts(t *testing.T) {
	for _, f := range programFiles(t) {
		text, err := os.ReadFile(f)
		if err != nil {
			t.Fatal(err)
		}
		laid, err := format.Source(text)
		if err != nil {
			t.Fatal(err)
		}
		if !bytes.Equal(text, laid) {
			t.Errorf("%s: not in gofmt's layout", f)
		}
	}
}

func TestImportsAndSizes(t *testing.T) {
	for _, f := range programFiles(t) {
		set := token.NewFileSet()
		file, err := parser.ParseFile(set, f, nil, parser.SkipObjectResolution)
		if err != nil {
			t.Fatal(err)
		}
		for _, i := range file.Imports {
			path, err := strconv.Unquote(i.Path.Value)
			if err != nil || !strings.Contains(allowedImports, " "+path+" ") {
				t.Errorf("%s: imports %s", f, i.Path.Value)
			}
		}
		for _, d := range file.Decls {
			fn, ok := d.(*ast.FuncDecl)
			if !ok {
				continue
			}
			if lines := set.Position(fn.End()).Line - set.Position(fn.Pos()).Line + 1; lines > maxLines {
				t.Errorf("%s: %s has %d lines", f, fn.Name.Name, lines)
			}
		}
	}
}
