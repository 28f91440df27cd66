package tests

import (
	"testing"

	"loop.example/savingsclub/impl"
)

// stepsFrom returns the greatest number of steps from the last member of a path to a guard, from this to its guard, and so on; -1 if such steps lead to a member of the path.
func stepsFrom(list []impl.Loan, path []int) int {
	greatest := 0
	for _, l := range list {
		if l.Borrower != path[len(path)-1] {
			continue
		}
		for _, guard := range l.Guards {
			if contains(path, guard) {
				return -1
			}
			steps := stepsFrom(list, append(append([]int{}, path...), guard))
			if steps < 0 {
				return -1
			}
			greatest = max(greatest, 1+steps)
		}
	}
	return greatest
}

// levelsByPaths returns the greatest numbers of steps from each member; nil if there is a ring.
func levelsByPaths(list []impl.Loan, members int) []int {
	var levels []int
	for member := 0; member < members; member++ {
		steps := stepsFrom(list, []int{member})
		if steps < 0 {
			return nil
		}
		levels = append(levels, steps)
	}
	return levels
}

// falling returns loans of members each of whose guards has a greater number, or, if they are renamed, comes later in an order.
func falling(members int, order []int, roll func(count int) int) []impl.Loan {
	var list []impl.Loan
	for count := roll(impl.MaxLoans + 1); count > 0; count-- {
		place := roll(members - 1)
		behind := pick(order[place+1:], mixed(members-1-place, roll(50)))
		list = append(list, debt(order[place], 1+roll(9), behind[:1+roll(1+roll(len(behind)))]...))
	}
	return list
}

// fullLadder returns loans in which each member answers for all those with lesser numbers.
func fullLadder(members int) []impl.Loan {
	var list []impl.Loan
	for member := 0; member+1 < members; member++ {
		list = append(list, debt(member, 10, upTo(members)[member+1:]...))
	}
	return list
}

// eachLadder calls check for valid loans, many of them without a ring, and with a ring that one more loan makes.
func eachLadder(check func(list []impl.Loan, members int)) {
	eachDebts(check)
	for members := 2; members <= impl.MaxMembers; members++ {
		check(fullLadder(members), members)
		check(reversed(fullLadder(members)), members)
		check(append(fullLadder(members), debt(members-1, 1, 0)), members)
		for by := 0; by < 100; by++ {
			order := mixed(members, by)
			list := falling(members, order, dice(1000*by+members))
			check(list, members)
			if len(list) < impl.MaxLoans {
				check(append(list, debt(order[members-1], 1, order[0])), members)
			}
		}
	}
}

func TestLevelsOfAndHasRing(t *testing.T) {
	two := []impl.Loan{debt(0, 100, 1, 2), debt(1, 50, 2)}
	cases := []struct {
		list    []impl.Loan
		members int
		levels  []int
		ring    bool
	}{
		{nil, 1, []int{0}, false},
		{nil, 2, []int{0, 0}, false},
		{nil, impl.MaxMembers, times(impl.MaxMembers, 0), false},
		{[]impl.Loan{debt(0, 1, 1)}, 2, []int{1, 0}, false},
		{[]impl.Loan{debt(0, 1, 1), debt(0, 1, 1)}, 2, []int{1, 0}, false},
		{two, 3, []int{2, 1, 0}, false},
		{reversed(two), 3, []int{2, 1, 0}, false},
		{[]impl.Loan{debt(0, 100, 2, 1), debt(1, 50, 2)}, 3, []int{2, 1, 0}, false},
		{[]impl.Loan{debt(0, 1, 1), debt(0, 1, 2), debt(1, 1, 2)}, 3, []int{2, 1, 0}, false},
		{[]impl.Loan{debt(0, 1, 2), debt(0, 1, 1), debt(1, 1, 2)}, 3, []int{2, 1, 0}, false},
		{[]impl.Loan{debt(0, 1, 2), debt(1, 1, 2)}, 3, []int{1, 1, 0}, false},
		{[]impl.Loan{debt(2, 1, 0), debt(1, 1, 2), debt(3, 1, 1)}, 5, []int{0, 2, 1, 3, 0}, false},
		{append(two, debt(2, 10, 0)), 3, nil, true},
		{append(two, debt(2, 10, 1)), 3, nil, true},
		{append(two, debt(2, 10, 3)), 4, []int{3, 2, 1, 0}, false},
		{ringOf(2, 1), 2, nil, true},
		{ringOf(2, 1), impl.MaxMembers, nil, true},
		{ringOf(3, 1), 3, nil, true},
		{[]impl.Loan{debt(0, 1, 1, 2, 3), debt(3, 1, 0)}, 4, nil, true},
		{[]impl.Loan{debt(0, 1, 3, 2, 1), debt(3, 1, 2, 0)}, 5, nil, true},
		{append([]impl.Loan{debt(11, 1, 0)}, ringOf(2, 1)...), impl.MaxMembers, nil, true},
		{upwards(impl.MaxMembers, 1), impl.MaxMembers, reversed(upTo(impl.MaxMembers)), false},
		{reversed(upwards(impl.MaxMembers, 1)), impl.MaxMembers, reversed(upTo(impl.MaxMembers)), false},
		{fullLadder(impl.MaxMembers), impl.MaxMembers, reversed(upTo(impl.MaxMembers)), false},
		{reversed(fullLadder(impl.MaxMembers)), impl.MaxMembers, reversed(upTo(impl.MaxMembers)), false},
		{ringOf(impl.MaxMembers, 1), impl.MaxMembers, nil, true},
		{reversed(ringOf(impl.MaxMembers, 1)), impl.MaxMembers, nil, true},
	}
	for _, c := range cases {
		if got := impl.LevelsOf(c.list, c.members); !equal(got, c.levels) {
			t.Errorf("LevelsOf(%v, %d) = %v, not %v", c.list, c.members, got, c.levels)
		}
		if got := impl.HasRing(c.list, c.members); got != c.ring {
			t.Errorf("HasRing(%v, %d) = %v", c.list, c.members, got)
		}
	}
}

func TestLevelsOfAreTheLongestPaths(t *testing.T) {
	rings := 0
	high := 0
	eachLadder(func(list []impl.Loan, members int) {
		want := levelsByPaths(list, members)
		if got := impl.LevelsOf(list, members); !equal(got, want) {
			t.Errorf("LevelsOf(%v, %d) = %v, not %v", list, members, got, want)
		}
		if got := impl.HasRing(list, members); got != (len(want) == 0) {
			t.Errorf("HasRing(%v, %d) = %v", list, members, got)
		}
		if len(want) == 0 {
			rings++
		} else if contains(want, 4) {
			high++
		}
	})
	if rings < 500 || high < 300 {
		t.Errorf("only %d have a ring, and only %d many levels", rings, high)
	}
}

func TestP87GuardsStandAbove(t *testing.T) {
	eachLadder(func(list []impl.Loan, members int) {
		levels := impl.LevelsOf(list, members)
		if len(levels) == 0 {
			return
		}
		for _, l := range list {
			for _, guard := range l.Guards {
				if levels[l.Borrower] <= levels[guard] {
					t.Errorf("LevelsOf(%v, %d) = %v, but %d answers for %d", list, members, levels, guard, l.Borrower)
				}
			}
		}
		for member, owed := range impl.OwedBy(list, members) {
			if (levels[member] == 0) != (owed == 0) {
				t.Errorf("LevelsOf(%v, %d) = %v, but %d owes %d", list, members, levels, member, owed)
			}
		}
	})
}

func TestP88RingsHaveNoLevels(t *testing.T) {
	eachLadder(func(list []impl.Loan, members int) {
		levels := impl.LevelsOf(list, members)
		ring := impl.HasRing(list, members)
		if ring != (len(levels) == 0) || !ring && len(levels) != members {
			t.Errorf("LevelsOf(%v, %d) = %v, but HasRing is %v", list, members, levels, ring)
		}
		for i := range list {
			if !ring && impl.HasRing(without(list, i), members) {
				t.Errorf("%v has a ring for %d members without loan %d", list, members, i)
			}
		}
	})
}
