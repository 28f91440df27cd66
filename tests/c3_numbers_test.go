package tests

import (
	"sort"
	"testing"

	"loop.example/savingsclub/impl"
)

// ordersByMembers returns all orders of count members, compared by their first member, then by their second one, and so on.
func ordersByMembers(count int) [][]int {
	orders := permutations(count)
	sort.Slice(orders, func(i int, k int) bool { return isBefore(orders[i], orders[k]) })
	return orders
}

// isBefore reports whether an order comes before another one of as many members.
func isBefore(order []int, other []int) bool {
	for i := range order {
		if order[i] != other[i] {
			return order[i] < other[i]
		}
	}
	return false
}

// allOrders returns the number of all orders of count members.
func allOrders(count int) int {
	return []int{1, 1, 2, 6, 24, 120, 720, 5040, 40320}[count]
}

// eachNumber calls check for each number of an order of 1..MaxFew members.
func eachNumber(check func(n int, members int)) {
	for members := 1; members <= impl.MaxFew; members++ {
		for n := 0; n < allOrders(members); n++ {
			check(n, members)
		}
	}
}

// turnedOver returns an order with each number taken from the last one.
func turnedOver(order []int) []int {
	var other []int
	for _, member := range order {
		other = append(other, len(order)-1-member)
	}
	return other
}

func TestRankOrderAndOrderAt(t *testing.T) {
	cases := []struct {
		n     int
		order []int
	}{
		{0, []int{0}},
		{0, []int{0, 1}}, {1, []int{1, 0}},
		{0, []int{0, 1, 2}}, {1, []int{0, 2, 1}}, {2, []int{1, 0, 2}}, {3, []int{1, 2, 0}}, {4, []int{2, 0, 1}}, {5, []int{2, 1, 0}},
		{0, []int{0, 1, 2, 3}}, {8, []int{1, 2, 0, 3}}, {14, []int{2, 1, 0, 3}}, {23, []int{3, 2, 1, 0}},
		{0, upTo(impl.MaxFew)}, {1, []int{0, 1, 2, 3, 4, 5, 7, 6}}, {5040, []int{1, 0, 2, 3, 4, 5, 6, 7}},
		{40318, []int{7, 6, 5, 4, 3, 2, 0, 1}}, {40319, reversed(upTo(impl.MaxFew))},
	}
	for _, c := range cases {
		if got := impl.RankOrder(c.order); got != c.n {
			t.Errorf("RankOrder(%v) = %d, not %d", c.order, got, c.n)
		}
		if got := impl.OrderAt(c.n, len(c.order)); !equal(got, c.order) {
			t.Errorf("OrderAt(%d, %d) = %v, not %v", c.n, len(c.order), got, c.order)
		}
	}
}

func TestRankOrderOfOtherOrders(t *testing.T) {
	for _, order := range badOrders() {
		if got := impl.RankOrder(order); got != -1 {
			t.Errorf("RankOrder(%v) = %d", order, got)
		}
	}
	for count := impl.MaxFew + 1; count <= impl.MaxMembers; count++ {
		for _, order := range [][]int{upTo(count), reversed(upTo(count)), mixed(count, 3)} {
			if got := impl.RankOrder(order); got != -1 {
				t.Errorf("RankOrder(%v) = %d", order, got)
			}
		}
	}
}

func TestOrderAtOtherArguments(t *testing.T) {
	for members := 1; members <= impl.MaxFew; members++ {
		for _, n := range []int{-1, -2, -allOrders(members), minInt, allOrders(members), allOrders(members) + 1, 50000, maxInt} {
			if got := impl.OrderAt(n, members); len(got) != 0 {
				t.Errorf("OrderAt(%d, %d) = %v", n, members, got)
			}
		}
	}
	for _, members := range []int{0, -1, -8, minInt, impl.MaxFew + 1, impl.MaxMembers, 21, 64, 65, maxInt} {
		for _, n := range []int{-1, 0, 1, 40319, 40320, minInt, maxInt} {
			if got := impl.OrderAt(n, members); len(got) != 0 {
				t.Errorf("OrderAt(%d, %d) = %v", n, members, got)
			}
		}
	}
}

func TestOrdersAreCountedByTheirMembers(t *testing.T) {
	for count := 1; count <= impl.MaxFew; count++ {
		for n, order := range ordersByMembers(count) {
			if got := impl.RankOrder(order); got != n {
				t.Errorf("RankOrder(%v) = %d, not %d", order, got, n)
			}
			if got := impl.OrderAt(n, count); !equal(got, order) {
				t.Errorf("OrderAt(%d, %d) = %v, not %v", n, count, got, order)
			}
		}
	}
}

func TestP55OrdersHaveNumbers(t *testing.T) {
	for count := 1; count <= impl.MaxFew; count++ {
		last := allOrders(count) - 1
		for _, order := range permutations(count) {
			n := impl.RankOrder(order)
			if n < 0 || !equal(impl.OrderAt(n, count), order) || impl.RankOrder(turnedOver(order)) != last-n {
				t.Errorf("RankOrder(%v) = %d, OrderAt it is %v, and turned over it is %d", order, n, impl.OrderAt(n, count), impl.RankOrder(turnedOver(order)))
			}
		}
	}
}

func TestP56NumbersHaveOrders(t *testing.T) {
	eachNumber(func(n int, members int) {
		order := impl.OrderAt(n, members)
		if len(order) != members || impl.RankOrder(order) != n {
			t.Errorf("OrderAt(%d, %d) = %v, RankOrder of which is %d", n, members, order, impl.RankOrder(order))
			return
		}
		next := impl.OrderAt(n+1, members)
		if n+1 == allOrders(members) {
			if len(next) != 0 {
				t.Errorf("OrderAt(%d, %d) = %v", n+1, members, next)
			}
		} else if len(next) != members || !isBefore(order, next) {
			t.Errorf("%v is behind %v", next, order)
		}
	})
}

func TestDrawOrder(t *testing.T) {
	list := []impl.Reveal{reveal(7925, 1, 2), reveal(7925, 2, 2), honest(5, 9), honest(impl.MaxDraw, impl.MaxSalt)}
	cases := []struct {
		list    []impl.Reveal
		members int
		want    []int
	}{
		{list[:2], 3, []int{0, 2, 1}},
		{list[:3], 3, []int{0, 1, 2}},
		{list[2:3], 3, []int{2, 1, 0}},
		{list[:3], 4, []int{1, 0, 2, 3}},
		{list, 1, []int{0}},
		{list, 2, []int{0, 1}},
		{list, 3, []int{1, 0, 2}},
		{nil, 1, []int{0}},
		{nil, impl.MaxFew, upTo(impl.MaxFew)},
		{list[1:2], impl.MaxFew, upTo(impl.MaxFew)},
		{[]impl.Reveal{honest(40319, 1)}, impl.MaxFew, reversed(upTo(impl.MaxFew))},
		{[]impl.Reveal{honest(40320, 1)}, impl.MaxFew, upTo(impl.MaxFew)},
		{[]impl.Reveal{honest(40320, 1), honest(40319, 1)}, impl.MaxFew, reversed(upTo(impl.MaxFew))},
		{[]impl.Reveal{honest(0, impl.MaxSalt)}, 2, []int{0, 1}},
	}
	for _, c := range cases {
		if got := impl.DrawOrder(c.list, c.members); !equal(got, c.want) {
			t.Errorf("DrawOrder(%v, %d) = %v, not %v", c.list, c.members, got, c.want)
		}
	}
}

func TestDrawOrderOfOtherMembers(t *testing.T) {
	for _, list := range [][]impl.Reveal{nil, {honest(1, 2)}, {reveal(1, 1, 2)}, {reveal(1, -1, 2)}} {
		for _, members := range []int{0, -1, -3, minInt, impl.MaxFew + 1, impl.MaxMembers, 21, 64, 65, 66, maxInt} {
			if got := impl.DrawOrder(list, members); len(got) != 0 {
				t.Errorf("DrawOrder(%v, %d) = %v", list, members, got)
			}
		}
	}
}

func TestDrawOrderIsAtTheRest(t *testing.T) {
	eachReveals(func(list []impl.Reveal) {
		for members := 1; members <= impl.MaxFew; members++ {
			sum, _ := impl.DrawOf(list, 1)
			want := impl.OrderAt(sum%allOrders(members), members)
			if got := impl.DrawOrder(list, members); len(got) != members || !equal(got, want) {
				t.Errorf("DrawOrder(%v, %d) = %v, not %v", list, members, got, want)
			}
		}
	})
}

// ordersDrawnOnce reports whether each order is drawn for exactly one value of one more member, at an index of the reveals.
func ordersDrawnOnce(list []impl.Reveal, index int, members int) bool {
	isDrawn := map[int]bool{}
	for value := 0; value < allOrders(members); value++ {
		n := impl.RankOrder(impl.DrawOrder(withOneMore(list, index, honest(value, 17)), members))
		if n < 0 || isDrawn[n] {
			return false
		}
		isDrawn[n] = true
	}
	return len(isDrawn) == allOrders(members)
}

func TestP57OrdersAreDrawnFairly(t *testing.T) {
	eachReveals(func(list []impl.Reveal) {
		if len(list) == impl.MaxMembers {
			list = list[1:]
		}
		if !ordersDrawnOnce(list, 0, 3) || !ordersDrawnOnce(list, len(list), 3) {
			t.Errorf("not each order is drawn once behind %v", list)
		}
	})
	for members := 1; members <= impl.MaxFew; members++ {
		if list := []impl.Reveal{honest(impl.MaxDraw, impl.MaxSalt), reveal(7925, 2, 2)}; !ordersDrawnOnce(list, 1, members) {
			t.Errorf("not each order of %d members is drawn once", members)
		}
	}
}
