package tests

import (
	"testing"

	"loop.example/savingsclub/impl"
)

func TestLeastCoalitions(t *testing.T) {
	cases := []struct {
		b    impl.Body
		want [][]int
	}{
		{body(4, 3, 2, 1), [][]int{{0, 1}, {0, 2}}},
		{body(3, 3, 2, 1), [][]int{{0}, {1, 2}}},
		{body(3, 1, 2, 3), [][]int{{0, 1}, {2}}},
		{body(1, 3, 2, 1), [][]int{{0}, {1}, {2}}},
		{body(6, 3, 2, 1), [][]int{{0, 1, 2}}},
		{body(4, 2, 2, 1), [][]int{{0, 1}}},
		{body(1, 1), [][]int{{0}}},
		{body(1, 0, 1, 0), [][]int{{1}}},
		{body(1, 0, 1, 0, 1), [][]int{{1}, {3}}},
		{body(2, 1, 1, 1, 1), [][]int{{0, 1}, {0, 2}, {1, 2}, {0, 3}, {1, 3}, {2, 3}}},
		{body(8, times(impl.MaxFew, 1)...), [][]int{{0, 1, 2, 3, 4, 5, 6, 7}}},
		{body(1, times(impl.MaxFew, 1)...), [][]int{{0}, {1}, {2}, {3}, {4}, {5}, {6}, {7}}},
		{body(9, 5, 4, 3, 2, 1), [][]int{{0, 1}, {0, 2, 3}, {1, 2, 3}, {0, 2, 4}}},
	}
	for _, c := range cases {
		if got := impl.LeastCoalitions(c.b); !equalLists(got, c.want) {
			t.Errorf("LeastCoalitions(%v) = %v, not %v", c.b, got, c.want)
		}
	}
}

func TestSwingsAndPivotsOf(t *testing.T) {
	cases := []struct {
		b       impl.Body
		swings  []int
		pivots  []int
		dummies []int
	}{
		{body(4, 3, 2, 1), []int{3, 1, 1}, []int{4, 1, 1}, nil},
		{body(3, 3, 2, 1), []int{3, 1, 1}, []int{4, 1, 1}, nil},
		{body(1, 3, 2, 1), []int{1, 1, 1}, []int{2, 2, 2}, nil},
		{body(6, 3, 2, 1), []int{1, 1, 1}, []int{2, 2, 2}, nil},
		{body(4, 2, 2, 1), []int{2, 2, 0}, []int{3, 3, 0}, []int{2}},
		{body(1, 1), []int{1}, []int{1}, nil},
		{body(1, 0, 1, 0), []int{0, 4, 0}, []int{0, 6, 0}, []int{0, 2}},
		{body(2, 1, 2), []int{0, 2}, []int{0, 2}, []int{0}},
		{body(6, 4, 3, 2, 1), []int{5, 3, 3, 1}, []int{10, 6, 6, 2}, nil},
		{body(8, times(impl.MaxFew, 1)...), times(8, 1), times(8, 5040), nil},
		{body(4, times(impl.MaxFew, 1)...), times(8, 35), times(8, 5040), nil},
		{body(1, 0, 0, 0, 0, 0, 0, 0, 1), []int{0, 0, 0, 0, 0, 0, 0, 128}, []int{0, 0, 0, 0, 0, 0, 0, 40320}, []int{0, 1, 2, 3, 4, 5, 6}},
	}
	for _, c := range cases {
		if got := impl.SwingsOf(c.b); !equal(got, c.swings) {
			t.Errorf("SwingsOf(%v) = %v, not %v", c.b, got, c.swings)
		}
		if got := impl.PivotsOf(c.b); !equal(got, c.pivots) {
			t.Errorf("PivotsOf(%v) = %v, not %v", c.b, got, c.pivots)
		}
		if got := impl.Dummies(c.b); !equal(got, c.dummies) {
			t.Errorf("Dummies(%v) = %v, not %v", c.b, got, c.dummies)
		}
	}
}

func TestPowerOfOtherBodies(t *testing.T) {
	check := func(b impl.Body) {
		if len(impl.LeastCoalitions(b)) != 0 || len(impl.SwingsOf(b)) != 0 || len(impl.PivotsOf(b)) != 0 || len(impl.Dummies(b)) != 0 {
			t.Errorf("the power in %v is told", b)
		}
	}
	for _, bad := range badBodies() {
		check(bad)
	}
	eachLargeBody(check)
}

func TestLeastCoalitionsAreAllInOrder(t *testing.T) {
	eachSmallBody(func(b impl.Body) {
		var want [][]int
		for _, members := range subsets(len(b.Weights)) {
			if isLeastCoalition(b, members) {
				want = append(want, members)
			}
		}
		if got := impl.LeastCoalitions(b); !equalLists(got, want) {
			t.Errorf("LeastCoalitions(%v) = %v, not %v", b, got, want)
		}
	})
}

// isLeastCoalition reports whether members win, but not without any one of them.
func isLeastCoalition(b impl.Body, members []int) bool {
	for i := range members {
		if impl.Wins(b, without(members, i)) {
			return false
		}
	}
	return impl.Wins(b, members)
}

func TestSwingsOfAreSetsOfOthers(t *testing.T) {
	eachSmallBody(func(b impl.Body) {
		want := make([]int, len(b.Weights))
		for _, members := range subsets(len(b.Weights)) {
			for member := range b.Weights {
				if !contains(members, member) && !impl.Wins(b, members) && impl.Wins(b, append([]int{member}, members...)) {
					want[member]++
				}
			}
		}
		if got := impl.SwingsOf(b); !equal(got, want) {
			t.Errorf("SwingsOf(%v) = %v, not %v", b, got, want)
		}
	})
}

// pivotsInOrders returns in how many of the orders each member decides.
func pivotsInOrders(b impl.Body, orders [][]int) []int {
	pivots := make([]int, len(b.Weights))
	for _, order := range orders {
		votes := 0
		for _, member := range order {
			votes += b.Weights[member]
			if votes >= b.Need {
				pivots[member]++
				break
			}
		}
	}
	return pivots
}

func TestPivotsOfAreOrders(t *testing.T) {
	var orders [][][]int
	for count := 0; count <= impl.MaxFew; count++ {
		orders = append(orders, permutations(count))
	}
	eachSmallBody(func(b impl.Body) {
		want := pivotsInOrders(b, orders[len(b.Weights)])
		if got := impl.PivotsOf(b); !equal(got, want) {
			t.Errorf("PivotsOf(%v) = %v, not %v", b, got, want)
		}
	})
}

func TestP23LeastCoalitionsAreLeast(t *testing.T) {
	eachSmallBody(func(b impl.Body) {
		coalitions := impl.LeastCoalitions(b)
		for i, members := range coalitions {
			if !isLeastCoalition(b, members) {
				t.Fatalf("LeastCoalitions(%v) has %v", b, members)
			}
			for k, others := range coalitions {
				if i != k && isAmong(members, others) {
					t.Fatalf("LeastCoalitions(%v) has %v in %v", b, members, others)
				}
			}
		}
	})
}

func TestP24WhoWinsHasALeastCoalition(t *testing.T) {
	eachSmallBody(func(b impl.Body) {
		coalitions := impl.LeastCoalitions(b)
		for _, members := range subsets(len(b.Weights)) {
			found := false
			for _, coalition := range coalitions {
				found = found || isAmong(coalition, members)
			}
			if impl.Wins(b, members) != found {
				t.Fatalf("%v have one of %v in %v: %v", members, coalitions, b, found)
			}
		}
	})
}

// followsVotes reports whether members with no fewer votes than others have no less power.
func followsVotes(b impl.Body, power []int) bool {
	for i, weight := range b.Weights {
		for k, other := range b.Weights {
			if weight >= other && power[i] < power[k] {
				return false
			}
		}
	}
	return len(power) == len(b.Weights)
}

func TestP25WhoHasMoreVotesDecidesMore(t *testing.T) {
	eachSmallBody(func(b impl.Body) {
		swings := impl.SwingsOf(b)
		if !followsVotes(b, swings) || !equal(swings, impl.SwingsOf(impl.DualBody(b))) {
			t.Errorf("SwingsOf(%v) = %v", b, swings)
		}
	})
}

func TestP26OneMemberDecidesInEachOrder(t *testing.T) {
	orders := []int{1, 1, 2, 6, 24, 120, 720, 5040, 40320}
	eachSmallBody(func(b impl.Body) {
		pivots := impl.PivotsOf(b)
		if !followsVotes(b, pivots) || sumOf(pivots) != orders[len(b.Weights)] {
			t.Errorf("PivotsOf(%v) = %v", b, pivots)
		}
	})
}

// coalitionsWith returns how many of the coalitions a member is in.
func coalitionsWith(coalitions [][]int, member int) int {
	count := 0
	for _, members := range coalitions {
		if contains(members, member) {
			count++
		}
	}
	return count
}

func TestP27WhoNeverDecidesIsADummy(t *testing.T) {
	eachSmallBody(func(b impl.Body) {
		dummies := impl.Dummies(b)
		coalitions := impl.LeastCoalitions(b)
		pivots := impl.PivotsOf(b)
		swings := impl.SwingsOf(b)
		var want []int
		for member := range b.Weights {
			isDummy := contains(dummies, member)
			if isDummy != (pivots[member] == 0) || isDummy != (swings[member] == 0) || isDummy != (coalitionsWith(coalitions, member) == 0) {
				t.Fatalf("Dummies(%v) = %v", b, dummies)
			}
			if isDummy {
				want = append(want, member)
			}
		}
		if !equal(dummies, want) {
			t.Errorf("Dummies(%v) = %v, not %v", b, dummies, want)
		}
	})
}

func TestP28VetoesAreInAllCoalitions(t *testing.T) {
	eachSmallBody(func(b impl.Body) {
		coalitions := impl.LeastCoalitions(b)
		for member := range b.Weights {
			if contains(impl.Vetoes(b), member) != (coalitionsWith(coalitions, member) == len(coalitions)) {
				t.Errorf("Vetoes(%v) = %v, with coalitions %v", b, impl.Vetoes(b), coalitions)
			}
		}
	})
	eachBody(func(b impl.Body) {
		for member := range b.Weights {
			if contains(impl.Vetoes(b), member) != impl.Wins(impl.DualBody(b), []int{member}) {
				t.Errorf("Vetoes(%v) = %v", b, impl.Vetoes(b))
			}
		}
	})
}
