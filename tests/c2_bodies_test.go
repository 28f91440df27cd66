package tests

import (
	"testing"

	"loop.example/savingsclub/impl"
)

// body returns a body.
func body(need int, weights ...int) impl.Body {
	return impl.Body{Weights: weights, Need: need}
}

// equalBodies reports whether two bodies have the same Weights and Need.
func equalBodies(a impl.Body, b impl.Body) bool {
	return a.Need == b.Need && equal(a.Weights, b.Weights)
}

// isNoBody reports whether a body is the zero value.
func isNoBody(b impl.Body) bool {
	return b.Need == 0 && len(b.Weights) == 0
}

// smallWeights returns Weights of at most MaxFew members.
func smallWeights() [][]int {
	lists := [][]int{
		{impl.MaxWeight}, {impl.MaxWeight, 0}, {0, impl.MaxWeight}, {50, 51, 1},
		{5, 4, 3, 2, 1}, {0, 7, 0, 7, 1}, {impl.MaxWeight, 99, 98, 97, 3, 2}, {3, 3, 2, 2, 1, 1},
		{9, 6, 5, 3, 1, 1, 0}, {1, 2, 4, 8, 16, 32, 64},
		{4, 3, 2, 1, 1, 1, 0, 0}, {0, 1, 0, 2, 0, 3, 0, 4}, {40, 30, 20, 10, 5, 3, 2, 1},
		{0, 0, 0, 0, 0, 0, 0, 1}, {1, 0, 0, 0, 0, 0, 0, 0},
		times(impl.MaxFew, 1), times(impl.MaxFew, impl.MaxWeight),
	}
	for count := 1; count <= 3; count++ {
		lists = append(lists, allLists(count, upTo(4))...)
	}
	return append(lists, allLists(4, upTo(3))...)
}

// largeWeights returns Weights of more than MaxFew members.
func largeWeights() [][]int {
	return [][]int{
		times(impl.MaxFew+1, 1), times(impl.MaxFew+1, impl.MaxWeight), {0, 0, 0, 0, 0, 0, 0, 0, 1},
		{9, 8, 7, 6, 5, 4, 3, 2, 1, 0}, {60, 40, 30, 20, 10, 5, 4, 3, 2, 1, 0},
		times(impl.MaxMembers, 1), times(impl.MaxMembers, impl.MaxWeight),
		{12, 11, 10, 9, 8, 7, 6, 5, 4, 3, 2, 1}, {0, 0, 0, 0, 0, 0, 0, 0, 0, 0, 0, 5},
	}
}

// needsFor returns numbers of votes that win: all if they are few, otherwise some, both ends among them.
func needsFor(weights []int) []int {
	sum := sumOf(weights)
	var needs []int
	for need := 1; need <= sum; need++ {
		if sum <= 20 || need <= 2 || need >= sum-1 || need == sum/2 || need == sum/2+1 || need == 2*sum/3+1 {
			needs = append(needs, need)
		}
	}
	return needs
}

// eachBodyWith calls check for valid bodies with the Weights.
func eachBodyWith(lists [][]int, check func(b impl.Body)) {
	for _, weights := range lists {
		for _, need := range needsFor(weights) {
			check(body(need, weights...))
		}
	}
}

// eachSmallBody calls check for valid bodies of at most MaxFew members.
func eachSmallBody(check func(b impl.Body)) {
	eachBodyWith(smallWeights(), check)
}

// eachLargeBody calls check for valid bodies of more than MaxFew members.
func eachLargeBody(check func(b impl.Body)) {
	eachBodyWith(largeWeights(), check)
}

// eachBody calls check for valid bodies of all sizes.
func eachBody(check func(b impl.Body)) {
	eachSmallBody(check)
	eachLargeBody(check)
}

// badBodies returns bodies that are not valid.
func badBodies() []impl.Body {
	return []impl.Body{
		body(0), body(1), body(-1),
		body(0, 0), body(1, 0), body(-1, 0), body(0, 0, 0, 0), body(1, 0, 0, 0),
		body(0, 1), body(2, 1), body(-1, 1), body(minInt, 1), body(maxInt, 1),
		body(0, 3, 2, 1), body(7, 3, 2, 1), body(-1, 3, 2, 1), body(-6, 3, 2, 1),
		body(1, -1), body(1, -1, 2), body(1, 2, -1), body(1, 5, minInt), body(1, minInt, minInt),
		body(1, impl.MaxWeight+1), body(1, 1, impl.MaxWeight+1), body(1, maxInt), body(1, maxInt, maxInt, 5),
		body(1, times(impl.MaxMembers+1, 1)...), body(0, times(impl.MaxMembers+1, 1)...),
		body(impl.MaxMembers+1, times(impl.MaxMembers+1, 1)...), body(1, times(100, 1)...),
		body(impl.MaxMembers*impl.MaxWeight+1, times(impl.MaxMembers, impl.MaxWeight)...),
		body(impl.MaxFew+1, times(impl.MaxFew, 1)...), body(0, times(impl.MaxFew, 1)...),
	}
}

func TestValidBody(t *testing.T) {
	eachBody(func(b impl.Body) {
		if !impl.ValidBody(b) {
			t.Errorf("ValidBody(%v) is false", b)
		}
	})
	for _, b := range badBodies() {
		if impl.ValidBody(b) {
			t.Errorf("ValidBody(%v) is true", b)
		}
	}
}

func TestValidBodyNeedsVotesThatThereAre(t *testing.T) {
	for _, weights := range append(smallWeights(), largeWeights()...) {
		sum := sumOf(weights)
		for need := -2; need <= sum+2; need++ {
			if impl.ValidBody(body(need, weights...)) != (need >= 1 && need <= sum) {
				t.Errorf("ValidBody(%v, %d) is wrong", weights, need)
			}
		}
	}
}

func TestP20LessCanWin(t *testing.T) {
	eachBody(func(b impl.Body) {
		if b.Need > 1 && !impl.ValidBody(body(b.Need-1, b.Weights...)) {
			t.Errorf("%v is not valid with a Need 1 less", b)
		}
	})
}

func TestWins(t *testing.T) {
	b := body(4, 3, 2, 1, 0)
	cases := []struct {
		members []int
		want    bool
	}{
		{nil, false}, {[]int{}, false}, {[]int{0}, false}, {[]int{3}, false}, {[]int{0, 3}, false},
		{[]int{0, 1}, true}, {[]int{1, 0}, true}, {[]int{0, 2}, true}, {[]int{2, 0}, true},
		{[]int{1, 2}, false}, {[]int{3, 2, 1}, false}, {[]int{2, 3, 0}, true}, {[]int{3, 2, 1, 0}, true},
	}
	for _, c := range cases {
		if impl.Wins(b, c.members) != c.want {
			t.Errorf("Wins(%v, %v) is not %v", b, c.members, c.want)
		}
	}
	if !impl.Wins(body(1, 1), []int{0}) || impl.Wins(body(1, 1), nil) || !impl.Wins(body(1, 0, 1), []int{1}) || impl.Wins(body(1, 0, 1), []int{0}) {
		t.Error("Wins is wrong for a Need of 1")
	}
	if all := times(impl.MaxMembers, impl.MaxWeight); !impl.Wins(body(1200, all...), subsets(12)[4095]) || impl.Wins(body(1200, all...), subsets(11)[2047]) {
		t.Error("Wins is wrong for a Need of all votes")
	}
}

func TestWinsOfOtherArguments(t *testing.T) {
	b := body(1, 3, 2, 1)
	for _, members := range [][]int{
		{0, 0}, {1, 1}, {0, 1, 0}, {2, 1, 2}, {0, 1, 2, 2}, {0, 1, 2, 0, 1, 2}, times(100, 0),
		{-1}, {3}, {0, 3}, {3, 0}, {0, -1}, {0, 1, 2, 3}, {minInt}, {maxInt}, {0, maxInt}, {0, 63}, {0, 64}, {0, -64},
	} {
		if impl.Wins(b, members) {
			t.Errorf("%v win", members)
		}
	}
	for _, bad := range badBodies() {
		for _, members := range [][]int{nil, {0}, {0, 1}, {0, 1, 2}, subsets(12)[4095]} {
			if impl.Wins(bad, members) {
				t.Errorf("%v win in %v", members, bad)
			}
		}
	}
}

func TestWinsAddsVotes(t *testing.T) {
	eachBody(func(b impl.Body) {
		for _, members := range subsets(len(b.Weights)) {
			votes := 0
			for _, member := range members {
				votes += b.Weights[member]
			}
			if impl.Wins(b, members) != (votes >= b.Need) || impl.Wins(b, reversed(members)) != (votes >= b.Need) {
				t.Fatalf("Wins(%v, %v) is wrong", b, members)
			}
		}
	})
}

func TestP21MoreMembersWinMore(t *testing.T) {
	eachSmallBody(func(b impl.Body) {
		for _, members := range subsets(len(b.Weights)) {
			for other := range b.Weights {
				more := append([]int{other}, members...)
				if !contains(members, other) && impl.Wins(b, members) && !impl.Wins(b, more) {
					t.Fatalf("%v win in %v, and %v do not", members, b, more)
				}
			}
		}
	})
	eachBody(func(b impl.Body) {
		if all := subsets(len(b.Weights)); !impl.Wins(b, all[len(all)-1]) {
			t.Errorf("not all together win in %v", b)
		}
	})
}

func TestVetoes(t *testing.T) {
	cases := []struct {
		b    impl.Body
		want []int
	}{
		{body(4, 3, 2, 1), []int{0}},
		{body(4, 2, 2, 1), []int{0, 1}},
		{body(3, 2, 2, 1), nil},
		{body(6, 3, 2, 1), []int{0, 1, 2}},
		{body(5, 3, 2, 1), []int{0, 1}},
		{body(3, 3, 0, 0), []int{0}},
		{body(1, 0, 0, 1), []int{2}},
		{body(1, 1, 0, 1), nil},
		{body(1, 1), []int{0}},
		{body(1, times(impl.MaxFew, 1)...), nil},
		{body(8, times(impl.MaxFew, 1)...), []int{0, 1, 2, 3, 4, 5, 6, 7}},
		{body(9, times(impl.MaxFew+1, 1)...), []int{0, 1, 2, 3, 4, 5, 6, 7, 8}},
		{body(1200, times(impl.MaxMembers, impl.MaxWeight)...), []int{0, 1, 2, 3, 4, 5, 6, 7, 8, 9, 10, 11}},
		{body(1100, times(impl.MaxMembers, impl.MaxWeight)...), nil},
		{body(1101, times(impl.MaxMembers, impl.MaxWeight)...), []int{0, 1, 2, 3, 4, 5, 6, 7, 8, 9, 10, 11}},
	}
	for _, c := range cases {
		if got := impl.Vetoes(c.b); !equal(got, c.want) {
			t.Errorf("Vetoes(%v) = %v, not %v", c.b, got, c.want)
		}
	}
	for _, bad := range badBodies() {
		if got := impl.Vetoes(bad); len(got) != 0 {
			t.Errorf("Vetoes(%v) = %v", bad, got)
		}
	}
}

func TestVetoesAreThoseWithoutWhomNobodyWins(t *testing.T) {
	eachBody(func(b impl.Body) {
		var want []int
		all := subsets(len(b.Weights))
		for member := range b.Weights {
			if !impl.Wins(b, without(all[len(all)-1], member)) {
				want = append(want, member)
			}
		}
		if got := impl.Vetoes(b); !equal(got, want) {
			t.Errorf("Vetoes(%v) = %v, not %v", b, got, want)
		}
	})
}

func TestDualBody(t *testing.T) {
	cases := []struct {
		b    impl.Body
		need int
	}{
		{body(4, 3, 2, 1), 3}, {body(1, 3, 2, 1), 6}, {body(6, 3, 2, 1), 1}, {body(1, 1), 1},
		{body(1, 0, 1, 0), 1}, {body(5, times(impl.MaxFew+1, 1)...), 5}, {body(12, times(impl.MaxMembers, 1)...), 1},
		{body(1, times(impl.MaxMembers, impl.MaxWeight)...), 1200},
	}
	for _, c := range cases {
		if got := impl.DualBody(c.b); !equalBodies(got, body(c.need, c.b.Weights...)) {
			t.Errorf("DualBody(%v) = %v", c.b, got)
		}
	}
	for _, bad := range badBodies() {
		if got := impl.DualBody(bad); !isNoBody(got) {
			t.Errorf("DualBody(%v) = %v", bad, got)
		}
	}
}

func TestP22WhoBlocksWinsInTheDualBody(t *testing.T) {
	eachBody(func(b impl.Body) {
		dual := impl.DualBody(b)
		all := subsets(len(b.Weights))
		for i, members := range all {
			others := all[len(all)-1-i]
			if impl.Wins(b, members) == impl.Wins(dual, others) {
				t.Fatalf("%v win in %v, and %v in the dual body, or neither", members, b, others)
			}
		}
	})
}

func TestP29TheDualOfTheDualIsTheBody(t *testing.T) {
	eachBody(func(b impl.Body) {
		dual := impl.DualBody(b)
		if !equalBodies(impl.DualBody(dual), b) || b.Need+dual.Need != sumOf(b.Weights)+1 {
			t.Errorf("DualBody(%v) = %v", b, dual)
		}
	})
}

func TestMergeMembers(t *testing.T) {
	largest := times(impl.MaxMembers, 50)
	cases := []struct {
		b    impl.Body
		i, k int
		want impl.Body
	}{
		{body(4, 3, 2, 1), 2, 1, body(4, 3, 3)},
		{body(4, 3, 2, 1), 1, 2, body(4, 3, 3)},
		{body(4, 3, 2, 1), 0, 2, body(4, 4, 2)},
		{body(4, 3, 2, 1), 0, 1, body(4, 5, 1)},
		{body(1, 1, 0), 1, 0, body(1, 1)},
		{body(1, 0, 0, 1), 0, 1, body(1, 0, 1)},
		{body(5, 1, 2, 3, 4, 5), 3, 1, body(5, 1, 6, 3, 5)},
		{body(10, 50, 50), 0, 1, body(10, 100)},
		{body(10, 50, 51), 0, 1, impl.Body{}},
		{body(10, 51, 50), 1, 0, impl.Body{}},
		{body(1, impl.MaxWeight, 0), 0, 1, body(1, impl.MaxWeight)},
		{body(1, impl.MaxWeight, 1), 0, 1, impl.Body{}},
		{body(1, impl.MaxWeight, impl.MaxWeight, 1), 2, 1, impl.Body{}},
		{body(9, times(impl.MaxFew+1, 1)...), 8, 0, body(9, 2, 1, 1, 1, 1, 1, 1, 1)},
		{body(600, largest...), 11, 0, body(600, append([]int{100}, largest[:10]...)...)},
		{body(600, largest...), 10, 11, body(600, append(times(10, 50), 100)...)},
	}
	for _, c := range cases {
		if got := impl.MergeMembers(c.b, c.i, c.k); !equalBodies(got, c.want) {
			t.Errorf("MergeMembers(%v, %d, %d) = %v, not %v", c.b, c.i, c.k, got, c.want)
		}
	}
}

func TestMergeMembersOfOtherArguments(t *testing.T) {
	check := func(b impl.Body, i int, k int) {
		if got := impl.MergeMembers(b, i, k); !isNoBody(got) {
			t.Errorf("MergeMembers(%v, %d, %d) = %v", b, i, k, got)
		}
	}
	b := body(4, 3, 2, 1)
	for member := range b.Weights {
		check(b, member, member)
		for _, other := range []int{-1, 3, 4, 12, 64, minInt, maxInt} {
			check(b, member, other)
			check(b, other, member)
			check(b, other, other)
		}
	}
	check(b, -1, 3)
	check(b, minInt, maxInt)
	check(body(1, 1), 0, 0)
	check(body(1, 1), 0, 1)
	for _, bad := range badBodies() {
		check(bad, 0, 1)
		check(bad, 1, 0)
		check(bad, 0, 0)
		check(bad, 2, 1)
	}
}

func TestP30MembersWhoVoteTogetherHaveBothVotes(t *testing.T) {
	eachBody(func(b impl.Body) {
		for i := range b.Weights {
			for k := 0; k < i; k++ {
				merged := impl.MergeMembers(b, i, k)
				if !equalBodies(merged, impl.MergeMembers(b, k, i)) {
					t.Fatalf("MergeMembers(%v, %d, %d) is another one the other way round", b, i, k)
				}
				if b.Weights[i]+b.Weights[k] > impl.MaxWeight {
					if !isNoBody(merged) {
						t.Fatalf("MergeMembers(%v, %d, %d) = %v", b, i, k, merged)
					}
					continue
				}
				others := without(without(b.Weights, i), k)
				if merged.Need != b.Need || sumOf(merged.Weights) != sumOf(b.Weights) || !equal(without(merged.Weights, k), others) {
					t.Fatalf("MergeMembers(%v, %d, %d) = %v", b, i, k, merged)
				}
			}
		}
	})
}
