package tests

import (
	"go/ast"
	"go/token"
	"testing"
)

// dividesByPrime reports whether a function takes the rest of a product or of a sum when it is divided by Prime.
func dividesByPrime(function *ast.FuncDecl) bool {
	found := false
	ast.Inspect(function, func(node ast.Node) bool {
		switch n := node.(type) {
		case *ast.BinaryExpr:
			found = found || n.Op == token.REM && isName(n.Y, "Prime")
		case *ast.AssignStmt:
			found = found || n.Tok == token.REM_ASSIGN && isName(n.Rhs[0], "Prime")
		}
		return true
	})
	return found
}

func TestWayOfKeysIsRestsByAPrime(t *testing.T) {
	functions := functionsOf(sourceFiles(t, "*.go"))
	for _, name := range []string{
		"InverseOf", "PolyAt", "DealShares", "PolyThrough", "OpenSecret", "FitTogether", "WrongShare", "AddShares", "RefreshShares", "PolyWith", "DealLock", "OpenLock",
	} {
		found := false
		for _, function := range reachedFrom(functions, name) {
			found = found || dividesByPrime(function)
		}
		if !found {
			t.Errorf("%s divides nothing by the prime", name)
		}
	}
}

// A polynomial is a sum of products, in which nothing but inverses undoes a product: neither tables nor tries of all polynomials do.
func TestWayOfKeysIsPolynomials(t *testing.T) {
	functions := functionsOf(sourceFiles(t, "*.go"))
	for _, name := range []string{"PolyAt", "DealShares", "PolyThrough", "OpenSecret", "FitTogether", "WrongShare", "RefreshShares", "PolyWith", "DealLock", "OpenLock"} {
		if !reachesLoopWith(functions, name, token.MUL, token.MUL_ASSIGN) || !reachesLoopWith(functions, name, token.ADD, token.ADD_ASSIGN) {
			t.Errorf("%s makes no sum of products", name)
		}
	}
	for _, name := range []string{"PolyThrough", "OpenSecret", "FitTogether", "WrongShare", "PolyWith", "OpenLock"} {
		if reachedFrom(functions, name)["InverseOf"] == nil {
			t.Errorf("%s does not use InverseOf", name)
		}
	}
}
