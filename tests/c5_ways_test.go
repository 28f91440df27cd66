package tests

import (
	"go/ast"
	"go/token"
	"testing"
)

// endsAtGrowingList reports whether a function has a loop up to the length of a list that it assigns again in the loop, as one over all who fail after each other does.
func endsAtGrowingList(function *ast.FuncDecl) bool {
	found := false
	ast.Inspect(function, func(node ast.Node) bool {
		loop, isLoop := node.(*ast.ForStmt)
		if isLoop && loop.Cond != nil {
			for _, name := range lengthsIn(loop.Cond) {
				found = found || isAssignedIn(loop.Body, name)
			}
		}
		return true
	})
	return found
}

// lengthsIn returns the names of the lists whose lengths are in an expression.
func lengthsIn(e ast.Expr) []string {
	var names []string
	ast.Inspect(e, func(node ast.Node) bool {
		if call, ok := node.(*ast.CallExpr); ok && isName(call.Fun, "len") {
			if list, ok := call.Args[0].(*ast.Ident); ok {
				names = append(names, list.Name)
			}
		}
		return true
	})
	return names
}

// isAssignedIn reports whether a name is assigned again in a block.
func isAssignedIn(block *ast.BlockStmt, name string) bool {
	found := false
	ast.Inspect(block, func(node ast.Node) bool {
		assign, ok := node.(*ast.AssignStmt)
		if ok && assign.Tok == token.ASSIGN {
			for _, left := range assign.Lhs {
				found = found || isName(left, name)
			}
		}
		return true
	})
	return found
}

// callsItself reports whether a function calls itself, or others that call it.
func callsItself(functions map[string]*ast.FuncDecl, name string) bool {
	found := false
	ast.Inspect(functions[name], func(node ast.Node) bool {
		if call, ok := node.(*ast.CallExpr); ok {
			if called, ok := call.Fun.(*ast.Ident); ok && functions[called.Name] != nil {
				found = found || called.Name == name || reachedFrom(functions, called.Name)[name] != nil
			}
		}
		return true
	})
	return found
}

// In a cascade those who fail make others fail: a loop over a list that grows in it, or a function that calls itself.
func TestWayOfFailuresIsCascades(t *testing.T) {
	functions := functionsOf(sourceFiles(t, "*.go"))
	found := false
	for name, function := range reachedFrom(functions, "Cascade") {
		found = found || endsAtGrowingList(function) || callsItself(functions, name)
	}
	if !found {
		t.Error("in Cascade nobody makes others fail")
	}
}

// dividesEvenly reports whether a function calls SplitEven itself.
func dividesEvenly(function *ast.FuncDecl) bool {
	found := false
	ast.Inspect(function, func(node ast.Node) bool {
		call, ok := node.(*ast.CallExpr)
		found = found || ok && isName(call.Fun, "SplitEven")
		return true
	})
	return found
}

// Each loan of a cascade fails as FailLoan tells: one function divides what the borrower cannot pay, for both.
func TestWayOfCascadesIsLoansThatFail(t *testing.T) {
	functions := functionsOf(sourceFiles(t, "c5_loan.go"))
	alone := map[string]bool{}
	for name, function := range reachedFrom(functions, "FailLoan") {
		alone[name] = dividesEvenly(function)
	}
	found := false
	for name, function := range reachedFrom(functions, "Cascade") {
		found = found || alone[name]
		if dividesEvenly(function) && !alone[name] {
			t.Errorf("%s divides loans in another way than FailLoan", name)
		}
	}
	if !found {
		t.Error("a loan of a cascade fails in another way than FailLoan tells")
	}
}
