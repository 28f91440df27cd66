package tests

import (
	"testing"

	"loop.example/savingsclub/impl"
)

func TestOrdersAreAsBefore(t *testing.T) {
	for _, members := range append([][]int{{2, 0, 1}, {0}, {1, 0}, upTo(impl.MaxMembers), reversed(upTo(impl.MaxFew))}, badOrders()...) {
		order := roomy(members...)
		impl.ValidOrder(order)
		impl.TurnOf(order, 0)
		impl.RankOrder(order)
		for n := -1; n <= len(order); n++ {
			spoil(impl.NetAfter(order, 10, n))
			impl.CreditAfter(order, 10, n)
			spoil(impl.SwapTurns(order, n, 0))
			spoil(impl.SwapTurns(order, n, n))
		}
		if !isAsBefore(order, members...) {
			t.Errorf("%v became %v", members, order)
		}
	}
}

func TestBidsAreAsBefore(t *testing.T) {
	check := func(before []int, pay int, done []int) {
		bids := roomy(before...)
		gone := roomy(done...)
		impl.WinnerOf(bids, pay, gone)
		spoil(impl.PayoutsOf(bids, pay, gone))
		if !isAsBefore(bids, before...) || !isAsBefore(gone, done...) {
			t.Errorf("%v and %v became %v and %v", before, done, bids, gone)
		}
	}
	for count := 1; count <= impl.MaxMembers; count++ {
		for by := 0; by < 5; by++ {
			for done := 0; done <= count; done++ {
				check(manyBids(count, 10, by), 10, mixed(count, by)[:done])
			}
		}
		for _, done := range badDone(count) {
			check(times(count, -1), 10, done)
		}
	}
	for _, bids := range badAuctions() {
		check(bids, 10, []int{0})
	}
}

func TestTablesAreAsBefore(t *testing.T) {
	check := func(table [][]int, pay int) {
		checkListsAreAsBefore(t, table, func(lists [][]int) {
			spoil(impl.BidOrder(lists, pay))
			spoil(impl.BidNets(lists, pay))
		})
	}
	check([][]int{{5, 8, 8}, {9, 0, 3}, {0, 0, 0}}, 10)
	check([][]int{{3}}, 10)
	check([][]int{{-1, -1}, {-1, -1}}, 0)
	check(manyTimes(impl.MaxMembers, upTo(impl.MaxMembers)...), 1)
	for _, table := range badTables() {
		check(table, 10)
	}
}

func TestRevealsAreAsBefore(t *testing.T) {
	check := func(before []impl.Reveal) {
		behind := reveal(-99, -99, -99)
		list := append(append([]impl.Reveal{}, before...), behind)
		spoil(impl.Honest(list[:len(before)]))
		impl.DrawOf(list[:len(before)], 10)
		spoil(impl.DrawOrder(list[:len(before)], 3))
		for i, one := range append(append([]impl.Reveal{}, before...), behind) {
			if list[i] != one {
				t.Errorf("%v became %v", before, list)
			}
		}
	}
	check(nil)
	check(someReveals()[:impl.MaxMembers])
	check(reversed(someReveals())[:5])
	for _, list := range badReveals() {
		check(list)
	}
}

func TestRoundsAreNewMemory(t *testing.T) {
	order := roomy(2, 0, 1)
	bids := roomy(5, 8, 8)
	done := roomy(1)
	table := [][]int{bids, roomy(9, 0, 3), roomy(0, 0, 0)}
	list := []impl.Reveal{honest(1, 2), reveal(7925, 2, 2), honest(3, 4)}
	checkNewMemory(t, func() [][]int {
		return [][]int{
			impl.NetAfter(order, 10, 1), impl.NetAfter(order, 10, 0), impl.NetAfter(order, 10, 3),
			impl.PayoutsOf(bids, 10, nil), impl.PayoutsOf(bids, 10, done), impl.PayoutsOf(table[2], 10, nil),
			impl.BidOrder(table, 10), impl.BidNets(table, 10), impl.Honest(list), impl.DrawOrder(list, 3),
			impl.OrderAt(0, 1), impl.OrderAt(0, 5), impl.OrderAt(40319, impl.MaxFew),
			impl.SwapTurns(order, 2, 1), impl.SwapTurns(order, 2, 2), impl.SwapTurns(order, 0, 2),
		}
	})
	if !isAsBefore(order, 2, 0, 1) || !isAsBefore(bids, 5, 8, 8) || !isAsBefore(done, 1) {
		t.Errorf("an answer is the memory of %v, %v or %v", order, bids, done)
	}
}
