package tests

import (
	"go/ast"
	"go/parser"
	"go/token"
	"path/filepath"
	"testing"
)

// sourceFiles returns the syntax of the files of impl whose names fit a pattern.
func sourceFiles(t *testing.T, pattern string) []*ast.File {
	t.Helper()
	paths, err := filepath.Glob(filepath.Join("..", "impl", pattern))
	if err != nil || len(paths) == 0 {
		t.Fatalf("no source %s: %v", pattern, err)
	}
	var files []*ast.File
	for _, path := range paths {
		file, err := parser.ParseFile(token.NewFileSet(), path, nil, parser.SkipObjectResolution)
		if err != nil {
			t.Fatal(err)
		}
		files = append(files, file)
	}
	return files
}

// functionsOf returns the functions of files by their names.
func functionsOf(files []*ast.File) map[string]*ast.FuncDecl {
	functions := map[string]*ast.FuncDecl{}
	for _, file := range files {
		for _, decl := range file.Decls {
			if function, ok := decl.(*ast.FuncDecl); ok && function.Recv == nil {
				functions[function.Name.Name] = function
			}
		}
	}
	return functions
}

// reachedFrom returns the functions that a function calls, itself or by others, and the function.
func reachedFrom(functions map[string]*ast.FuncDecl, name string) map[string]*ast.FuncDecl {
	reached := map[string]*ast.FuncDecl{}
	var visit func(name string)
	visit = func(name string) {
		function := functions[name]
		if function == nil || reached[name] != nil {
			return
		}
		reached[name] = function
		ast.Inspect(function, func(node ast.Node) bool {
			if call, ok := node.(*ast.CallExpr); ok {
				if called, ok := call.Fun.(*ast.Ident); ok {
					visit(called.Name)
				}
			}
			return true
		})
	}
	visit(name)
	return reached
}
