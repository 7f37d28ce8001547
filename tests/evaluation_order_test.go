package tests

import (
	"go/ast"
	"go/parser"
	"go/token"
	"path/filepath"
	"slices"
	"testing"
)

// Go orders the calls in a statement, but not the reading of a variable against them. These tests look at the text of the program, because the compiler at hand chooses one of the orders.

// pointerMethods returns the names of the methods that can change the variable on which they are called.
func pointerMethods(files []*ast.File) map[string]bool {
	names := map[string]bool{}
	for _, file := range files {
		for _, declared := range file.Decls {
			if method, ok := declared.(*ast.FuncDecl); ok && method.Recv != nil {
				if _, isPointer := method.Recv.List[0].Type.(*ast.StarExpr); isPointer {
					names[method.Name.Name] = true
				}
			}
		}
	}
	return names
}

// baseName returns the variable of which the expression is a part, if it is one.
func baseName(e ast.Expr) string {
	switch x := e.(type) {
	case *ast.Ident:
		return x.Name
	case *ast.SelectorExpr:
		return baseName(x.X)
	case *ast.IndexExpr:
		return baseName(x.X)
	case *ast.ParenExpr:
		return baseName(x.X)
	case *ast.StarExpr:
		return baseName(x.X)
	}
	return ""
}

// readAndChanged returns the variables that an expression reads and those that a call in it can change.
func readAndChanged(e ast.Expr, methods map[string]bool) (map[string]bool, map[string]bool) {
	read, changed := map[string]bool{}, map[string]bool{}
	ast.Inspect(e, func(node ast.Node) bool {
		switch x := node.(type) {
		case *ast.FuncLit:
			return false
		case *ast.SelectorExpr:
			if methods[x.Sel.Name] {
				changed[baseName(x.X)] = true
				return false
			}
			read[baseName(x)] = true
			return baseName(x) == ""
		case *ast.UnaryExpr:
			if x.Op == token.AND {
				changed[baseName(x.X)] = true
				return false
			}
		case *ast.Ident:
			read[x.Name] = true
		}
		return true
	})
	delete(read, "")
	delete(changed, "")
	return read, changed
}

// unordered returns the expressions in the node that are not ordered against each other, as far as they read variables.
func unordered(node ast.Node) []ast.Expr {
	switch x := node.(type) {
	case *ast.ReturnStmt:
		return x.Results
	case *ast.AssignStmt:
		return x.Rhs
	case *ast.CallExpr:
		return x.Args
	case *ast.IndexExpr:
		return []ast.Expr{x.X, x.Index}
	case *ast.BinaryExpr:
		// The right side of these is evaluated after the left one.
		if x.Op != token.LAND && x.Op != token.LOR {
			return []ast.Expr{x.X, x.Y}
		}
	case *ast.CompositeLit:
		var list []ast.Expr
		for _, element := range x.Elts {
			if pair, ok := element.(*ast.KeyValueExpr); ok {
				element = pair.Value
			}
			list = append(list, element)
		}
		return list
	}
	return nil
}

// readBesideChange returns the places where a variable is read beside a call that can change it, with the names of the variables.
func readBesideChange(fset *token.FileSet, files []*ast.File) []string {
	methods := pointerMethods(files)
	var places []string
	for _, file := range files {
		ast.Inspect(file, func(node ast.Node) bool {
			list := unordered(node)
			for i, one := range list {
				for j, other := range list {
					read, _ := readAndChanged(one, methods)
					_, changed := readAndChanged(other, methods)
					for name := range changed {
						if i != j && read[name] {
							places = append(places, fset.Position(one.Pos()).String()+" "+name)
						}
					}
				}
			}
			return true
		})
	}
	return places
}

func TestNothingIsReadBesideItsChange(t *testing.T) {
	paths, err := filepath.Glob("../impl/*.go")
	if err != nil || len(paths) == 0 {
		t.Fatal("no files of the program:", err)
	}
	fset := token.NewFileSet()
	var files []*ast.File
	for _, path := range paths {
		file, err := parser.ParseFile(fset, path, nil, parser.SkipObjectResolution)
		if err != nil {
			t.Fatal(err)
		}
		files = append(files, file)
	}
	for _, place := range readBesideChange(fset, files) {
		t.Error("the order of a call and of the reading of a variable that it can change is open:", place)
	}
}

// TestReadBesideChange makes sure that the search above finds what it looks for.
func TestReadBesideChange(t *testing.T) {
	for body, want := range map[string][]string{
		"return s, s.change()":                     {"s"},
		"return s.change(), s":                     {"s"},
		"return s, s.change() && s.change()":       {"s"},
		"return s.n, s.change()":                   {"s"},
		"return s.list[0], s.inner.change()":       {"s"},
		"return *s, use(s.change())":               {"s"},
		"return s, use(&s.inner)":                  {"s"},
		"a, b := s, s.change()":                    {"s"},
		"use(s, s.change())":                       {"s"},
		"use(s.n + s.change())":                    {"s"},
		"use(s.list[s.change()])":                  {"s"},
		"use(T{n: s.n, m: s.change()})":            {"s"},
		"use([]int{a, use(&a)})":                   {"a"},
		"return s, use(&a), a":                     {"a"},
		"possible := s.change(); return s, a":      nil,
		"return a, s.change()":                     nil,
		"return s, s.look()":                       nil,
		"return s.change() && s.n > 0":             nil,
		"return s.change(), s.change()":            nil,
		"use(s.change(a), a)":                      nil,
		"if s.change() { return s }":               nil,
		"s = s.next(); use(s)":                     nil,
		"return func() T { return s.change() }, s": nil,
	} {
		fset := token.NewFileSet()
		text := "package p\nfunc (s *T) change() bool\nfunc (s T) look() bool\nfunc f() {\n" + body + "\n}"
		file, err := parser.ParseFile(fset, "", text, parser.SkipObjectResolution)
		if err != nil {
			t.Fatal(body, err)
		}
		var got []string
		for _, place := range readBesideChange(fset, []*ast.File{file}) {
			got = append(got, place[len(place)-1:])
		}
		if !slices.Equal(got, want) {
			t.Errorf("in %q, read beside their change are %v, want %v", body, got, want)
		}
	}
}
