package tests

import (
	"go/ast"
	"go/parser"
	"go/token"
	"testing"
)

// TestLanguage keeps impl in the part of Go of ../shared/LANGUAGE.md, as far as its syntax tells.
func TestLanguage(t *testing.T) {
	files := sourceFiles(t, "*.go")
	for _, file := range files {
		for _, fault := range faultsOf(file, functionsOf(files)) {
			t.Errorf("%s: %s", file.Name.Name, fault)
		}
	}
}

// TestLanguageFaultsAreFound makes sure that TestLanguage would fail.
func TestLanguageFaultsAreFound(t *testing.T) {
	for _, source := range []string{
		`import "fmt"`,
		`var table = []int{1}`,
		`func init() {}`,
		`type T interface{}`,
		`func f(x any) {}`,
		`func f() error { return nil }`,
		`func f() { g := func() {}; g() }`,
		`func f(g func() int) int { return g() }`,
		`type T struct { f func() }`,
		`func g() {}; func f() { h := g; h() }`,
		`type T struct{}; func (t T) m() {}; func f(t T) { h := t.m; h() }`,
		`func f() { m := map[int]int{}; m[1] = 2 }`,
		`func f() { go f() }`,
		`func f(c chan int) {}`,
		`func f() { defer f() }`,
		`func f() { panic("") }`,
		`func f() { recover() }`,
		`func f() { again: goto again }`,
		`func f() { select {} }`,
		`func f[T int](x T) {}`,
		`type T[E int] struct { e E }`,
		`func f(x float64) {}`,
		`func f() int { return int(0.5) }`,
		`func f(x complex128) {}`,
		`func f(a []int) { a[0], a[1] = a[1], a[0] }`,
		`type T struct { n int }; func f(t T) { t.n, t.n = 1, 2 }`,
		`func f(a []int) int { return cap(a) }`,
		`func f(a []int) []int { return a[0:1:1] }`,
		`func f(a []int) bool { return a == nil }`,
		`func f(a []int) bool { return nil != a }`,
		`func f(a []int) { switch x := any(a).(type) { case int: _ = x } }`,
	} {
		file, err := parser.ParseFile(token.NewFileSet(), "", "package impl\n"+source, parser.SkipObjectResolution)
		if err != nil {
			t.Fatalf("%s: %v", source, err)
		}
		if len(faultsOf(file, functionsOf([]*ast.File{file}))) == 0 {
			t.Errorf("no fault found: %s", source)
		}
	}
}

// faultsOf returns what a file has outside of the permitted part of Go.
func faultsOf(file *ast.File, functions map[string]*ast.FuncDecl) []string {
	var faults []string
	for _, decl := range file.Decls {
		if general, ok := decl.(*ast.GenDecl); ok && general.Tok == token.VAR {
			faults = append(faults, "a variable of the package")
		}
	}
	plain := plainUses(file)
	ast.Inspect(file, func(node ast.Node) bool {
		if fault := faultOf(node); fault != "" {
			faults = append(faults, fault)
		}
		if !plain[node] && isFunctionValue(node, functions) {
			faults = append(faults, "a function that is a value")
		}
		return true
	})
	return faults
}

// plainUses returns the names and types of functions where they are declared or called, and the names of fields.
func plainUses(file *ast.File) map[ast.Node]bool {
	plain := map[ast.Node]bool{}
	methods := map[string]bool{}
	ast.Inspect(file, func(node ast.Node) bool {
		switch n := node.(type) {
		case *ast.FuncDecl:
			plain[n.Name] = true
			plain[n.Type] = true
			methods[n.Name.Name] = n.Recv != nil
		case *ast.CallExpr:
			plain[n.Fun] = true
			if selector, ok := n.Fun.(*ast.SelectorExpr); ok {
				plain[selector.Sel] = true
			}
		}
		return true
	})
	ast.Inspect(file, func(node ast.Node) bool {
		if selector, ok := node.(*ast.SelectorExpr); ok && !methods[selector.Sel.Name] {
			plain[selector] = true
			plain[selector.Sel] = true
		}
		return true
	})
	return plain
}

// isFunctionValue reports whether a node that is not a plain use is a function, a method, or the type of one.
func isFunctionValue(node ast.Node, functions map[string]*ast.FuncDecl) bool {
	switch n := node.(type) {
	case *ast.FuncType, *ast.SelectorExpr:
		return true
	case *ast.Ident:
		return functions[n.Name] != nil
	}
	return false
}

// faultOf returns what is wrong with a node by itself.
func faultOf(node ast.Node) string {
	switch n := node.(type) {
	case *ast.ImportSpec:
		return "an import"
	case *ast.InterfaceType:
		return "an interface"
	case *ast.TypeSwitchStmt, *ast.TypeAssertExpr:
		return "a switch over types"
	case *ast.FuncLit:
		return "a closure"
	case *ast.MapType:
		return "a map"
	case *ast.ChanType, *ast.GoStmt, *ast.SelectStmt, *ast.SendStmt, *ast.DeferStmt:
		return "a goroutine, a channel or a defer"
	case *ast.BasicLit:
		if n.Kind == token.FLOAT || n.Kind == token.IMAG {
			return "a float"
		}
	case *ast.Ident:
		return faultOfName(n.Name)
	case *ast.BranchStmt:
		if n.Tok == token.GOTO {
			return "a goto"
		}
	case *ast.FuncDecl:
		if n.Name.Name == "init" {
			return "an init"
		}
	case *ast.FuncType:
		if n.TypeParams != nil {
			return "a generic function"
		}
	case *ast.TypeSpec:
		if n.TypeParams != nil {
			return "a generic type"
		}
	case *ast.SliceExpr:
		if n.Slice3 {
			return "a slice with three indexes"
		}
	case *ast.BinaryExpr:
		if isName(n.X, "nil") || isName(n.Y, "nil") {
			return "a comparison with nil"
		}
	case *ast.AssignStmt:
		if len(n.Lhs) > 1 && !allNames(n.Lhs) {
			return "several elements assigned at once"
		}
	}
	return ""
}

// faultOfName returns what is wrong with a name, "" for most names.
func faultOfName(name string) string {
	switch name {
	case "any", "error", "panic", "recover", "cap", "float32", "float64", "complex64", "complex128", "unsafe":
		return name
	}
	return ""
}

// isName reports whether an expression is a name.
func isName(e ast.Expr, name string) bool {
	ident, ok := e.(*ast.Ident)
	return ok && ident.Name == name
}

// allNames reports whether all expressions are names.
func allNames(list []ast.Expr) bool {
	for _, e := range list {
		if _, ok := e.(*ast.Ident); !ok {
			return false
		}
	}
	return true
}
