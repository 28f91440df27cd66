package tests

import (
	"testing"

	"loop.example/savingsclub/impl"
)

// manyTimes returns lists that are all the same one.
func manyTimes(count int, list ...int) [][]int {
	var lists [][]int
	for i := 0; i < count; i++ {
		lists = append(lists, append([]int{}, list...))
	}
	return lists
}

// eachRanks calls check for valid lists: all if they are few and short, otherwise some.
func eachRanks(check func(ranks [][]int)) {
	for count := 1; count <= impl.MaxMembers; count++ {
		check(manyTimes(count, 0))
	}
	for count := 1; count <= 5; count++ {
		for _, ranks := range allLists(count, permutations(2)) {
			check(ranks)
		}
	}
	for count := 1; count <= 4; count++ {
		for _, ranks := range allLists(count, permutations(3)) {
			check(ranks)
		}
	}
	for choices := 3; choices <= impl.MaxChoices; choices++ {
		orders := permutations(choices)
		for count := 1; count <= impl.MaxMembers; count++ {
			for start := 0; start < 40; start++ {
				var ranks [][]int
				for i := 0; i < count; i++ {
					ranks = append(ranks, orders[(start*(i+1)*(i+7)+start*start+i*i*i)%len(orders)])
				}
				check(ranks)
			}
		}
	}
}

// badRanks returns lists that are not valid.
func badRanks() [][][]int {
	return [][][]int{
		nil, {}, {nil}, {{}}, {{}, {}}, {{}, {0}}, {{0}, {}}, {{0}, nil},
		{{1}}, {{-1}}, {{minInt}}, {{maxInt}}, {{0}, {1}},
		{{0, 0}}, {{1, 1}}, {{1, 2}}, {{0, 2}}, {{2, 0}}, {{-1, 0}}, {{0, -1}}, {{0, minInt}}, {{0, maxInt}}, {{0, 64}}, {{0, 65}},
		{{0}, {0, 1}}, {{0, 1}, {0}}, {{0, 1}, {1, 0}, {0, 1, 2}}, {{0, 1, 2}, {1, 0}}, {{0, 1, 2}, {1, 0, 3}},
		{{0, 1}, {0, 0}}, {{0, 1}, {1, 1}}, {{0, 1, 2}, {0, 1, 1}}, {{0, 1, 2}, {0, 1, 2, 2}}, {{0, 1, 2}, {0, 1, 2, 3}},
		{{0, 1, 2, 3, 4, 5, 6}}, {{6, 5, 4, 3, 2, 1, 0}, {0, 1, 2, 3, 4, 5, 6}}, {{0, 1, 2, 3, 4, 6}}, {{1, 2, 3, 4, 5, 6}},
		{times(100, 0)}, {subsets(12)[4095]},
		manyTimes(impl.MaxMembers+1, 0), manyTimes(impl.MaxMembers+1, 1, 0), manyTimes(100, 0, 1, 2),
		append(manyTimes(impl.MaxMembers-1, 0, 1), []int{0}),
	}
}

func TestValidRanks(t *testing.T) {
	eachRanks(func(ranks [][]int) {
		if !impl.ValidRanks(ranks) {
			t.Errorf("ValidRanks(%v) is false", ranks)
		}
	})
	for _, ranks := range badRanks() {
		if impl.ValidRanks(ranks) {
			t.Errorf("ValidRanks(%v) is true", ranks)
		}
	}
}

func TestRanksThatAreNotValid(t *testing.T) {
	for _, ranks := range badRanks() {
		if impl.BeatsAll(ranks) != -1 || len(impl.PointsOf(ranks)) != 0 || impl.Runoff(ranks) != -1 {
			t.Errorf("%v have an answer", ranks)
		}
		if impl.Prefer(ranks, 0, 1) != -1 || impl.Prefer(ranks, 1, 0) != -1 || impl.Prefer(ranks, 0, 0) != -1 {
			t.Errorf("Prefer(%v) is told", ranks)
		}
	}
}

func TestPrefer(t *testing.T) {
	ranks := [][]int{{0, 1, 2}, {0, 2, 1}, {1, 0, 2}, {1, 2, 0}}
	for _, c := range [][3]int{{0, 1, 2}, {1, 0, 2}, {0, 2, 3}, {2, 0, 1}, {1, 2, 3}, {2, 1, 1}} {
		if got := impl.Prefer(ranks, c[0], c[1]); got != c[2] {
			t.Errorf("Prefer(%d, %d) = %d, not %d", c[0], c[1], got, c[2])
		}
	}
	if impl.Prefer(manyTimes(impl.MaxMembers, 5, 4, 3, 2, 1, 0), 5, 0) != 12 || impl.Prefer(manyTimes(impl.MaxMembers, 5, 4, 3, 2, 1, 0), 0, 5) != 0 {
		t.Error("Prefer is wrong for many equal lists")
	}
}

func TestPreferOfOtherChoices(t *testing.T) {
	ranks := [][]int{{0, 1, 2}, {2, 1, 0}}
	for choice := 0; choice < 3; choice++ {
		for _, other := range []int{choice, -1, 3, 6, minInt, maxInt} {
			if impl.Prefer(ranks, choice, other) != -1 || impl.Prefer(ranks, other, choice) != -1 {
				t.Errorf("Prefer of %d and %d is told", choice, other)
			}
		}
	}
	for _, c := range [][2]int{{-1, -1}, {3, 3}, {-1, 3}, {3, 4}, {minInt, maxInt}} {
		if impl.Prefer(ranks, c[0], c[1]) != -1 {
			t.Errorf("Prefer of %d and %d is told", c[0], c[1])
		}
	}
	if impl.Prefer([][]int{{0}}, 0, 0) != -1 || impl.Prefer([][]int{{0}}, 0, 1) != -1 {
		t.Error("Prefer is told for one choice")
	}
}

// listsBefore returns how many lists have a choice before another one.
func listsBefore(ranks [][]int, a int, b int) int {
	count := 0
	for _, list := range ranks {
		for _, choice := range list {
			if choice == a {
				count++
			}
			if choice == a || choice == b {
				break
			}
		}
	}
	return count
}

func TestBeatsAll(t *testing.T) {
	cases := []struct {
		ranks [][]int
		want  int
	}{
		{[][]int{{0, 1, 2}, {1, 2, 0}, {2, 0, 1}}, -1},
		{[][]int{{0, 1, 2}, {0, 2, 1}, {1, 0, 2}}, 0},
		{[][]int{{0, 1, 2}, {2, 1, 0}, {1, 2, 0}}, 1},
		{[][]int{{0, 2, 1}, {1, 2, 0}, {2, 0, 1}}, 2},
		{[][]int{{0, 1}, {1, 0}}, -1},
		{[][]int{{0, 1}, {1, 0}, {1, 0}}, 1},
		{[][]int{{0, 1, 2}, {1, 0, 2}}, -1},
		{[][]int{{2, 0, 1}, {2, 1, 0}}, 2},
		{[][]int{{0, 1, 2}, {0, 1, 2}, {1, 0, 2}, {1, 0, 2}}, -1},
		{[][]int{{0, 1, 2}, {0, 1, 2}, {2, 0, 1}, {2, 1, 0}}, -1},
		{[][]int{{0}}, 0},
		{manyTimes(impl.MaxMembers, 0), 0},
		{manyTimes(impl.MaxMembers, 3, 5, 4, 0, 1, 2), 3},
		{manyTimes(1, 5, 4, 3, 2, 1, 0), 5},
	}
	for _, c := range cases {
		if got := impl.BeatsAll(c.ranks); got != c.want {
			t.Errorf("BeatsAll(%v) = %d, not %d", c.ranks, got, c.want)
		}
	}
}

func TestPointsOf(t *testing.T) {
	cases := []struct {
		ranks [][]int
		want  []int
	}{
		{[][]int{{0, 1, 2}, {1, 2, 0}, {2, 0, 1}}, []int{3, 3, 3}},
		{[][]int{{0, 1, 2}, {0, 2, 1}, {1, 0, 2}}, []int{5, 3, 1}},
		{[][]int{{2, 0, 1}}, []int{1, 0, 2}},
		{[][]int{{3, 0, 2, 1}, {3, 2, 1, 0}}, []int{2, 1, 3, 6}},
		{[][]int{{0}}, []int{0}},
		{manyTimes(impl.MaxMembers, 0), []int{0}},
		{manyTimes(impl.MaxMembers, 1, 0), []int{0, 12}},
		{manyTimes(impl.MaxMembers, 3, 5, 4, 0, 1, 2), []int{24, 12, 0, 60, 36, 48}},
	}
	for _, c := range cases {
		if got := impl.PointsOf(c.ranks); !equal(got, c.want) {
			t.Errorf("PointsOf(%v) = %v, not %v", c.ranks, got, c.want)
		}
	}
}

func TestRunoff(t *testing.T) {
	cases := []struct {
		ranks [][]int
		want  int
	}{
		// All are equal: the greatest number goes first.
		{[][]int{{0, 1, 2}, {1, 2, 0}, {2, 0, 1}}, 0},
		{[][]int{{2, 1, 0}, {1, 0, 2}, {0, 2, 1}}, 1},
		{[][]int{{0, 1}, {1, 0}}, 0},
		{[][]int{{0, 1}, {1, 0}, {1, 0}}, 1},
		{[][]int{{0, 1, 2}, {0, 2, 1}, {1, 0, 2}}, 0},
		// The list of 2 goes over to 1, which has as many as 0 before.
		{[][]int{{0, 1, 2}, {0, 1, 2}, {1, 2, 0}, {1, 0, 2}, {2, 1, 0}}, 1},
		// 1 is the first one of no list, and goes, though more lists have it before 0 than behind it.
		{[][]int{{0, 1, 2}, {0, 1, 2}, {2, 1, 0}, {2, 1, 0}, {2, 1, 0}}, 2},
		// 3 and 2 are equal, and then 1 and 0 are.
		{[][]int{{0, 1, 2, 3}, {1, 0, 2, 3}}, 0},
		// 0 has no lists; the others are equal then, and the list of 3 goes over to 1.
		{[][]int{{1, 2, 3, 0}, {2, 3, 1, 0}, {3, 1, 2, 0}}, 1},
		// When 2 is gone, 1 and 0 are equal; the list of 1 goes over to 0, and 3 and 0 are equal.
		{[][]int{{3, 0, 1, 2}, {3, 0, 1, 2}, {1, 0, 2, 3}, {0, 1, 2, 3}}, 0},
		// 2 and 1 are equal; when 2 is struck out, its list goes to 1.
		{[][]int{{0, 1, 2}, {0, 2, 1}, {1, 2, 0}, {2, 1, 0}, {1, 0, 2}, {2, 1, 0}}, 1},
		{[][]int{{0}}, 0},
		{manyTimes(impl.MaxMembers, 0), 0},
		{manyTimes(impl.MaxMembers, 3, 5, 4, 0, 1, 2), 3},
		{manyTimes(1, 5, 4, 3, 2, 1, 0), 5},
	}
	for _, c := range cases {
		if got := impl.Runoff(c.ranks); got != c.want {
			t.Errorf("Runoff(%v) = %d, not %d", c.ranks, got, c.want)
		}
	}
}

// struckOut returns lists without a choice.
func struckOut(ranks [][]int, choice int) [][]int {
	var shorter [][]int
	for _, list := range ranks {
		var rest []int
		for _, other := range list {
			if other != choice {
				rest = append(rest, other)
			}
		}
		shorter = append(shorter, rest)
	}
	return shorter
}

// runoffByLists returns the choice that is left when choices are struck out of the lists themselves.
func runoffByLists(ranks [][]int) int {
	for len(ranks[0]) > 1 {
		weakest := -1
		for _, choice := range ranks[0] {
			if weakest < 0 || firsts(ranks, choice) < firsts(ranks, weakest) || firsts(ranks, choice) == firsts(ranks, weakest) && choice > weakest {
				weakest = choice
			}
		}
		ranks = struckOut(ranks, weakest)
	}
	return ranks[0][0]
}

// firsts returns how many lists begin with a choice.
func firsts(ranks [][]int, choice int) int {
	count := 0
	for _, list := range ranks {
		if list[0] == choice {
			count++
		}
	}
	return count
}

func TestRunoffStrikesOutOneAfterTheOther(t *testing.T) {
	eachRanks(func(ranks [][]int) {
		if got := impl.Runoff(ranks); got != runoffByLists(ranks) {
			t.Errorf("Runoff(%v) = %d, not %d", ranks, got, runoffByLists(ranks))
		}
	})
}

func TestP34ListsCanBeLeftOut(t *testing.T) {
	eachRanks(func(ranks [][]int) {
		var back [][]int
		for i, list := range ranks {
			back = append(back, reversed(list))
			fewer := append(append([][]int{}, ranks[:i]...), ranks[i+1:]...)
			if impl.ValidRanks(fewer) != (len(ranks) > 1) {
				t.Errorf("ValidRanks(%v) is wrong", fewer)
			}
		}
		if !impl.ValidRanks(back) {
			t.Errorf("ValidRanks(%v) is false", back)
		}
	})
}

func TestP35EachListPrefersOneOfTwo(t *testing.T) {
	eachRanks(func(ranks [][]int) {
		for a := range ranks[0] {
			for b := 0; b < a; b++ {
				if impl.Prefer(ranks, a, b)+impl.Prefer(ranks, b, a) != len(ranks) || impl.Prefer(ranks, a, b) != listsBefore(ranks, a, b) {
					t.Fatalf("Prefer(%v) of %d and %d is wrong", ranks, a, b)
				}
			}
		}
	})
}

// beatsEach reports whether a choice is preferred by more lists than not to each other choice.
func beatsEach(ranks [][]int, choice int) bool {
	for other := range ranks[0] {
		if other != choice && 2*impl.Prefer(ranks, choice, other) <= len(ranks) {
			return false
		}
	}
	return true
}

func TestP36WhoBeatsAllBeatsEach(t *testing.T) {
	eachRanks(func(ranks [][]int) {
		best := impl.BeatsAll(ranks)
		for choice := range ranks[0] {
			if beatsEach(ranks, choice) != (choice == best) {
				t.Fatalf("BeatsAll(%v) = %d", ranks, best)
			}
		}
		if best < -1 || best >= len(ranks[0]) {
			t.Fatalf("BeatsAll(%v) = %d", ranks, best)
		}
	})
}

func TestP37PointsArePreferences(t *testing.T) {
	eachRanks(func(ranks [][]int) {
		points := impl.PointsOf(ranks)
		choices := len(ranks[0])
		if len(points) != choices || sumOf(points) != len(ranks)*choices*(choices-1)/2 {
			t.Fatalf("PointsOf(%v) = %v", ranks, points)
		}
		for a := range ranks[0] {
			want := 0
			for b := range ranks[0] {
				if a != b {
					want += impl.Prefer(ranks, a, b)
				}
			}
			if points[a] != want {
				t.Fatalf("PointsOf(%v) = %v", ranks, points)
			}
		}
	})
}

func TestP38WhoBeatsAllHasMoreThanTheMean(t *testing.T) {
	eachRanks(func(ranks [][]int) {
		best := impl.BeatsAll(ranks)
		choices := len(ranks[0])
		if best < 0 || choices < 2 {
			return
		}
		points := impl.PointsOf(ranks)
		isLast := true
		for choice := range points {
			isLast = isLast && points[choice] >= points[best]
		}
		if isLast || 2*points[best] <= len(ranks)*(choices-1) {
			t.Fatalf("BeatsAll(%v) = %d with points %v", ranks, best, points)
		}
	})
}

func TestP39RunoffsLeaveAChoiceWithLists(t *testing.T) {
	eachRanks(func(ranks [][]int) {
		left := impl.Runoff(ranks)
		last := 0
		for choice := range ranks[0] {
			if 2*firsts(ranks, choice) > len(ranks) && left != choice {
				t.Fatalf("Runoff(%v) = %d, not %d", ranks, left, choice)
			}
		}
		for _, list := range ranks {
			if list[len(list)-1] == left {
				last++
			}
		}
		if len(ranks[0]) > 1 && last == len(ranks) || !contains(ranks[0], left) {
			t.Fatalf("Runoff(%v) = %d", ranks, left)
		}
	})
}
