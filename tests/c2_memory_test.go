package tests

import (
	"testing"

	"loop.example/savingsclub/impl"
)

// callAllOnBodies calls all functions of bodies, and writes into their answers.
func callAllOnBodies(b impl.Body, members []int, ballots []int) {
	impl.ValidBody(b)
	impl.Wins(b, members)
	for _, coalition := range impl.LeastCoalitions(b) {
		spoil(coalition)
	}
	spoil(impl.SwingsOf(b))
	spoil(impl.PivotsOf(b))
	spoil(impl.Dummies(b))
	spoil(impl.Vetoes(b))
	spoil(impl.DualBody(b).Weights)
	for i := range b.Weights {
		for k := range b.Weights {
			spoil(impl.MergeMembers(b, i, k).Weights)
		}
	}
	for _, kind := range kinds() {
		impl.TallyOf(b, ballots, kind)
	}
	impl.Passes(b, ballots, 1, true)
	impl.Passes(b, ballots, 1, false)
}

func TestBodiesAndBallotsAreAsBefore(t *testing.T) {
	check := func(need int, weights []int, members []int, ballots []int) {
		b := impl.Body{Weights: roomy(weights...), Need: need}
		given := roomy(members...)
		cast := roomy(ballots...)
		callAllOnBodies(b, given, cast)
		if b.Need != need || !isAsBefore(b.Weights, weights...) {
			t.Errorf("the Weights %v became %v", weights, b.Weights)
		}
		if !isAsBefore(given, members...) || !isAsBefore(cast, ballots...) {
			t.Errorf("%v or %v became %v and %v", members, ballots, given, cast)
		}
	}
	check(4, []int{3, 2, 1, 0}, []int{2, 0, 3}, []int{no, yes, blank, absent})
	check(4, []int{0, 1, 2, 3}, []int{3, 0}, []int{yes, yes, yes, yes})
	check(1, []int{1}, nil, []int{yes})
	check(100, times(impl.MaxMembers, 50), []int{11, 10, 9}, times(impl.MaxMembers, blank))
	check(0, []int{3, 2, 1}, []int{1, 1}, []int{9, 9, 9})
	check(9, []int{3, 2, 1}, []int{-1, 5}, []int{yes})
	check(1, nil, nil, nil)
}

func TestVotesAreNewMemory(t *testing.T) {
	b := body(8, 5, 4, 3, 2, 1, 0)
	ranks := [][]int{{0, 1, 2}, {1, 2, 0}}
	checkNewMemory(t, func() [][]int {
		return [][]int{
			impl.SwingsOf(b), impl.PivotsOf(b), impl.Dummies(b), impl.Vetoes(body(14, b.Weights...)),
			impl.DualBody(b).Weights, impl.MergeMembers(b, 1, 3).Weights, impl.PointsOf(ranks),
		}
	})
}

func TestCoalitionsShareNoMemory(t *testing.T) {
	for _, b := range []impl.Body{body(8, 5, 4, 3, 2, 1, 1), body(4, 3, 2, 1), body(1, times(8, 1)...), body(4, times(8, 1)...)} {
		checkListsShareNoMemory(t, func() [][]int { return impl.LeastCoalitions(b) })
	}
}

func TestRanksAreAsBefore(t *testing.T) {
	for _, before := range [][][]int{
		{{0, 1, 2}, {1, 2, 0}, {2, 0, 1}},
		{{3, 1, 0, 2}, {0, 1, 2, 3}},
		{{0}},
		{{5, 4, 3, 2, 1, 0}, {0, 1, 2, 3, 4, 5}, {3, 2, 5, 4, 0, 1}},
		{{0, 0}, {1, 2}},
		{{0, 1}, {0}},
	} {
		checkListsAreAsBefore(t, before, func(ranks [][]int) {
			impl.ValidRanks(ranks)
			impl.Prefer(ranks, 0, 1)
			impl.BeatsAll(ranks)
			spoil(impl.PointsOf(ranks))
			impl.Runoff(ranks)
		})
	}
}
