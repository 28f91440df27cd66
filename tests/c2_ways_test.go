package tests

import (
	"go/ast"
	"go/token"
	"testing"
)

// countsSets reports whether a function has a loop that ends at a power of 2, as one over all sets does.
func countsSets(function *ast.FuncDecl) bool {
	found := false
	ast.Inspect(function, func(node ast.Node) bool {
		loop, isLoop := node.(*ast.ForStmt)
		if !isLoop || loop.Cond == nil {
			return true
		}
		ast.Inspect(loop.Cond, func(node ast.Node) bool {
			power, ok := node.(*ast.BinaryExpr)
			found = found || ok && power.Op == token.SHL
			return true
		})
		return true
	})
	return found
}

func TestWayOfPowerIsAllSets(t *testing.T) {
	functions := functionsOf(sourceFiles(t, "c2_vote.go"))
	for _, name := range []string{"LeastCoalitions", "SwingsOf", "PivotsOf", "Dummies"} {
		found := false
		for _, function := range reachedFrom(functions, name) {
			found = found || countsSets(function)
		}
		if !found {
			t.Errorf("%s does not look at all sets of members", name)
		}
	}
}
