package tests

import (
	"go/ast"
	"go/token"
	"testing"

	"loop.example/savingsclub/impl"
)

// halves reports whether a loop of a function divides by 2.
func halves(function *ast.FuncDecl) bool {
	found := false
	ast.Inspect(function, func(node ast.Node) bool {
		loop, isLoop := node.(*ast.ForStmt)
		if !isLoop {
			return true
		}
		ast.Inspect(loop, func(node ast.Node) bool {
			quotient, ok := node.(*ast.BinaryExpr)
			if ok && quotient.Op == token.QUO {
				divisor, ok := quotient.Y.(*ast.BasicLit)
				found = found || ok && divisor.Value == "2"
			}
			return true
		})
		return true
	})
	return found
}

func TestWayOfLeastPayIsBisection(t *testing.T) {
	functions := functionsOf(sourceFiles(t, "c1_money.go"))
	found := false
	for _, function := range reachedFrom(functions, "LeastPay") {
		found = found || halves(function)
	}
	if !found {
		t.Error("LeastPay halves nothing")
	}
}

// A search that tries one pay after the other would take longer for these loans than go test waits.
func TestWayOfLeastPayIsFast(t *testing.T) {
	for n := impl.MaxAmount; n > impl.MaxAmount-100; n-- {
		for periods := 1; periods <= impl.MaxPeriods; periods++ {
			for _, r := range someRates() {
				if pay := impl.LeastPay(n, r, periods); pay < n/impl.MaxPeriods {
					t.Fatalf("LeastPay(%d, %v, %d) = %d", n, r, periods, pay)
				}
			}
		}
	}
}

func TestWayOfInterestIsRounding(t *testing.T) {
	functions := functionsOf(sourceFiles(t, "c1_money.go"))
	for _, name := range []string{"Compound", "OwedAfter", "LeastPay", "InterestOf"} {
		if reachedFrom(functions, name)["RoundEven"] == nil {
			t.Errorf("%s does not use RoundEven", name)
		}
	}
}
