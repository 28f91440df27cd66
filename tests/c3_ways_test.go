package tests

import (
	"go/ast"
	"go/token"
	"testing"
)

// loopsWith reports whether a loop of a function has one of two operations: one of two numbers, or one that is assigned.
func loopsWith(function *ast.FuncDecl, operation token.Token, assigned token.Token) bool {
	found := false
	look := func(node ast.Node) bool {
		switch n := node.(type) {
		case *ast.BinaryExpr:
			found = found || n.Op == operation
		case *ast.AssignStmt:
			found = found || n.Tok == assigned
		}
		return true
	}
	ast.Inspect(function, func(node ast.Node) bool {
		switch loop := node.(type) {
		case *ast.ForStmt:
			ast.Inspect(loop.Body, look)
		case *ast.RangeStmt:
			ast.Inspect(loop.Body, look)
		}
		return true
	})
	return found
}

// reachesLoopWith reports whether a function of impl, or one that it calls, has a loop with one of two operations.
func reachesLoopWith(functions map[string]*ast.FuncDecl, name string, operation token.Token, assigned token.Token) bool {
	for _, function := range reachedFrom(functions, name) {
		if loopsWith(function, operation, assigned) {
			return true
		}
	}
	return false
}

func TestWayOfRoundsIsSums(t *testing.T) {
	functions := functionsOf(sourceFiles(t, "*.go"))
	for _, name := range []string{"NetAfter", "CreditAfter", "BidNets", "DrawOf", "DrawOrder"} {
		if !reachesLoopWith(functions, name, token.ADD, token.ADD_ASSIGN) {
			t.Errorf("%s adds nothing up", name)
		}
	}
}

// Numbers of orders are products, and who has them needs not look at one order after the other to find the one with a number.
func TestWayOfOrdersIsTheirNumbers(t *testing.T) {
	functions := functionsOf(sourceFiles(t, "*.go"))
	for _, name := range []string{"RankOrder", "OrderAt", "DrawOrder"} {
		if !reachesLoopWith(functions, name, token.MUL, token.MUL_ASSIGN) {
			t.Errorf("%s does not know how many orders there are", name)
		}
	}
	if reachedFrom(functions, "RankOrder")["OrderAt"] != nil || reachedFrom(functions, "OrderAt")["RankOrder"] != nil {
		t.Error("orders are looked at one after the other")
	}
}
