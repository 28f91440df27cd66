package tests

import (
	"testing"

	"loop.example/savingsclub/impl"
)

// upTo returns the numbers from 0 up to count less 1, which are an order of as many members.
func upTo(count int) []int {
	var numbers []int
	for n := 0; n < count; n++ {
		numbers = append(numbers, n)
	}
	return numbers
}

// mixed returns an order in which each member is exchanged with another one that is told by a number.
func mixed(count int, by int) []int {
	order := upTo(count)
	for i := range order {
		k := (by*(i+3) + i*i) % count
		order[i], order[k] = order[k], order[i]
	}
	return order
}

// eachOrder calls check for valid orders: all of up to six members, and some of more.
func eachOrder(check func(order []int)) {
	for count := 1; count <= 6; count++ {
		for _, order := range permutations(count) {
			check(order)
		}
	}
	for count := 7; count <= impl.MaxMembers; count++ {
		check(upTo(count))
		check(reversed(upTo(count)))
		for by := 0; by < 40; by++ {
			check(mixed(count, by))
		}
	}
}

// badOrders returns orders that are not valid.
func badOrders() [][]int {
	return [][]int{
		nil, {}, {1}, {-1}, {minInt}, {maxInt}, {64}, {0, 0}, {1, 1}, {1, 2}, {0, 2}, {2, 0}, {-1, 0}, {0, -1}, {0, 1, -1},
		{0, 64}, {64, 0}, {0, 65}, {0, maxInt}, {minInt, 1}, {0, 1, 1}, {1, 0, 1}, {2, 1, 2}, {1, 2, 3}, {0, 1, 3}, {3, 3, 0, 0},
		{0, 1, 2, 3, 4, 5, 6, 6}, {1, 2, 3, 4, 5, 6, 7, 8}, append(upTo(impl.MaxMembers-1), 0), append(upTo(impl.MaxMembers-1), impl.MaxMembers),
		append(upTo(impl.MaxMembers-1), impl.MaxMembers-2), append([]int{11}, upTo(impl.MaxMembers)[1:]...),
		upTo(impl.MaxMembers + 1), reversed(upTo(impl.MaxMembers + 1)), append(upTo(impl.MaxMembers), 0), upTo(64), upTo(65), upTo(1000),
		times(impl.MaxMembers, 0), times(impl.MaxMembers+1, 0),
	}
}

// somePayments returns what members may pay in a round, with both ends.
func somePayments() []int {
	return []int{0, 1, 2, 3, 10, 99, 1205, impl.MaxPay - 1, impl.MaxPay}
}

// badPayments returns what members may not pay in a round; some of them times a few members have no bits left.
func badPayments() []int {
	return []int{-1, -2, -10, minInt, minInt / 2, impl.MaxPay + 1, 2 * impl.MaxPay, impl.MaxAmount, 1 << 61, 1 << 62, maxInt}
}

// badMembers returns numbers of members that no club has.
func badMembers() []int {
	return []int{0, -1, -impl.MaxMembers, minInt, impl.MaxMembers + 1, impl.MaxMembers + 2, 64, 1 << 62, maxInt}
}

// eachClub calls check for orders, payments and all numbers of rounds.
func eachClub(check func(order []int, pay int, rounds int)) {
	eachOrder(func(order []int) {
		for _, pay := range somePayments() {
			for rounds := 0; rounds <= len(order); rounds++ {
				check(order, pay, rounds)
			}
		}
	})
}

func TestValidOrder(t *testing.T) {
	eachOrder(func(order []int) {
		if !impl.ValidOrder(order) {
			t.Errorf("ValidOrder(%v) is false", order)
		}
	})
	for _, order := range badOrders() {
		if impl.ValidOrder(order) {
			t.Errorf("ValidOrder(%v) is true", order)
		}
	}
}

func TestOrdersThatAreNotValid(t *testing.T) {
	for _, order := range badOrders() {
		for _, member := range []int{-1, 0, 1, 2, 11} {
			if got := impl.TurnOf(order, member); got != -1 {
				t.Errorf("TurnOf(%v, %d) = %d", order, member, got)
			}
			if got := impl.SwapTurns(order, member, 0); len(got) != 0 {
				t.Errorf("SwapTurns(%v, %d, 0) = %v", order, member, got)
			}
			if got := impl.SwapTurns(order, member, member); len(got) != 0 {
				t.Errorf("SwapTurns(%v, %d, %d) = %v", order, member, member, got)
			}
		}
		for _, pay := range []int{0, 10} {
			for rounds := 0; rounds <= 2; rounds++ {
				checkNoNets(t, order, pay, rounds)
			}
		}
	}
}

// checkNoNets fails if NetAfter or CreditAfter is told.
func checkNoNets(t *testing.T, order []int, pay int, rounds int) {
	t.Helper()
	if got := impl.NetAfter(order, pay, rounds); len(got) != 0 {
		t.Errorf("NetAfter(%v, %d, %d) = %v", order, pay, rounds, got)
	}
	if got := impl.CreditAfter(order, pay, rounds); got != -1 {
		t.Errorf("CreditAfter(%v, %d, %d) = %d", order, pay, rounds, got)
	}
}

func TestP40OrdersCanBeTurnedRound(t *testing.T) {
	eachOrder(func(order []int) {
		back := reversed(order)
		if !impl.ValidOrder(order) || !impl.ValidOrder(back) {
			t.Errorf("%v is valid only one way", order)
		}
		for member := range order {
			turn := impl.TurnOf(order, member)
			if turn < 0 || turn >= len(order) || impl.TurnOf(back, member) != len(order)-1-turn {
				t.Errorf("TurnOf(%v, %d) = %d, and in reverse order %d", order, member, turn, impl.TurnOf(back, member))
			}
		}
	})
}

func TestPotOf(t *testing.T) {
	for _, c := range [][3]int{
		{1, 0, 0}, {1, 1, 1}, {1, impl.MaxPay, 10000}, {2, 5, 10}, {3, 10, 30}, {impl.MaxMembers, 0, 0},
		{impl.MaxMembers, 1, 12}, {impl.MaxMembers, impl.MaxPay, 120000}, {7, 1205, 8435},
	} {
		if got := impl.PotOf(c[0], c[1]); got != c[2] {
			t.Errorf("PotOf(%d, %d) = %d, not %d", c[0], c[1], got, c[2])
		}
	}
}

func TestPotOfOtherArguments(t *testing.T) {
	for _, members := range badMembers() {
		for _, pay := range append(somePayments(), badPayments()...) {
			if got := impl.PotOf(members, pay); got != -1 {
				t.Errorf("PotOf(%d, %d) = %d", members, pay, got)
			}
		}
	}
	for members := 1; members <= impl.MaxMembers; members++ {
		for _, pay := range badPayments() {
			if got := impl.PotOf(members, pay); got != -1 {
				t.Errorf("PotOf(%d, %d) = %d", members, pay, got)
			}
		}
	}
}

func TestP41PotsAddUp(t *testing.T) {
	for pay := 0; pay <= impl.MaxPay; pay++ {
		for members := 1; members <= impl.MaxMembers; members++ {
			pot := impl.PotOf(members, pay)
			if pot != sumOf(times(members, pay)) || (pot == 0) != (pay == 0) {
				t.Errorf("PotOf(%d, %d) = %d", members, pay, pot)
			}
		}
	}
}

func TestTurnOf(t *testing.T) {
	order := []int{2, 0, 1}
	for member, want := range []int{1, 2, 0} {
		if got := impl.TurnOf(order, member); got != want {
			t.Errorf("TurnOf(%v, %d) = %d, not %d", order, member, got, want)
		}
	}
	if impl.TurnOf([]int{0}, 0) != 0 || impl.TurnOf(upTo(impl.MaxMembers), 11) != 11 || impl.TurnOf(reversed(upTo(impl.MaxMembers)), 11) != 0 {
		t.Error("TurnOf is wrong for one member, or for many")
	}
}

func TestTurnOfOtherMembers(t *testing.T) {
	for count := 1; count <= impl.MaxMembers; count++ {
		for _, member := range []int{-1, -2, count, count + 1, 64, minInt, maxInt} {
			if got := impl.TurnOf(upTo(count), member); got != -1 {
				t.Errorf("TurnOf(%v, %d) = %d", upTo(count), member, got)
			}
		}
	}
}

func TestP42TurnsArePlaces(t *testing.T) {
	eachOrder(func(order []int) {
		for turn, member := range order {
			if got := impl.TurnOf(order, member); got != turn || order[got] != member {
				t.Errorf("TurnOf(%v, %d) = %d, not %d", order, member, got, turn)
			}
		}
	})
}

func TestNetAndCreditAfter(t *testing.T) {
	cases := []struct {
		order  []int
		pay    int
		rounds int
		nets   []int
		credit int
	}{
		{[]int{2, 0, 1}, 10, 0, []int{0, 0, 0}, 0},
		{[]int{2, 0, 1}, 10, 1, []int{-10, -10, 20}, 20},
		{[]int{2, 0, 1}, 10, 2, []int{10, -20, 10}, 20},
		{[]int{2, 0, 1}, 10, 3, []int{0, 0, 0}, 0},
		{[]int{0}, 10, 0, []int{0}, 0},
		{[]int{0}, 10, 1, []int{0}, 0},
		{[]int{0}, impl.MaxPay, 1, []int{0}, 0},
		{[]int{1, 0}, impl.MaxPay, 1, []int{-10000, 10000}, 10000},
		{[]int{1, 0, 2}, 0, 2, []int{0, 0, 0}, 0},
		{[]int{3, 1, 0, 2}, 1, 2, []int{-2, 2, -2, 2}, 4},
		{[]int{3, 1, 0, 2}, 1, 3, []int{1, 1, -3, 1}, 3},
		{upTo(impl.MaxMembers), 1, 1, append([]int{11}, times(11, -1)...), 11},
		{upTo(impl.MaxMembers), impl.MaxPay, 6, append(times(6, 60000), times(6, -60000)...), 360000},
		{upTo(impl.MaxMembers), impl.MaxPay, 11, append(times(11, 10000), -110000), 110000},
	}
	for _, c := range cases {
		if got := impl.NetAfter(c.order, c.pay, c.rounds); !equal(got, c.nets) {
			t.Errorf("NetAfter(%v, %d, %d) = %v, not %v", c.order, c.pay, c.rounds, got, c.nets)
		}
		if got := impl.CreditAfter(c.order, c.pay, c.rounds); got != c.credit {
			t.Errorf("CreditAfter(%v, %d, %d) = %d, not %d", c.order, c.pay, c.rounds, got, c.credit)
		}
	}
}

func TestNetAfterOfOtherArguments(t *testing.T) {
	for count := 1; count <= impl.MaxMembers; count++ {
		order := reversed(upTo(count))
		for _, rounds := range []int{-1, -count, count + 1, count + 2, 64, minInt, maxInt} {
			for _, pay := range []int{0, 1, impl.MaxPay} {
				checkNoNets(t, order, pay, rounds)
			}
		}
		for _, pay := range badPayments() {
			for rounds := -1; rounds <= count+1; rounds++ {
				checkNoNets(t, order, pay, rounds)
			}
		}
	}
}

// netByRounds returns what members got less what they paid, round by round.
func netByRounds(order []int, pay int, rounds int) []int {
	nets := make([]int, len(order))
	for _, winner := range order[:rounds] {
		for member := range order {
			nets[member] -= pay
			nets[winner] += pay
		}
	}
	return nets
}

func TestNetAfterIsRoundByRound(t *testing.T) {
	eachClub(func(order []int, pay int, rounds int) {
		if got, want := impl.NetAfter(order, pay, rounds), netByRounds(order, pay, rounds); !equal(got, want) {
			t.Errorf("NetAfter(%v, %d, %d) = %v, not %v", order, pay, rounds, got, want)
		}
	})
}

func TestP43MoneyGoesRound(t *testing.T) {
	eachClub(func(order []int, pay int, rounds int) {
		nets := impl.NetAfter(order, pay, rounds)
		if len(nets) != len(order) || sumOf(nets) != 0 {
			t.Errorf("NetAfter(%v, %d, %d) = %v", order, pay, rounds, nets)
		}
		if (rounds == 0 || rounds == len(order)) && !equal(nets, times(len(order), 0)) {
			t.Errorf("NetAfter(%v, %d, %d) = %v", order, pay, rounds, nets)
		}
	})
}

func TestP44CreditIsWhatOthersLent(t *testing.T) {
	eachClub(func(order []int, pay int, rounds int) {
		lent := 0
		for _, member := range order {
			if impl.TurnOf(order, member) >= rounds {
				lent += rounds * pay
			}
		}
		left := len(order) - rounds
		if got := impl.CreditAfter(order, pay, rounds); got != lent || got != impl.CreditAfter(order, pay, left) {
			t.Errorf("CreditAfter(%v, %d, %d) = %d, not %d, and after %d %d", order, pay, rounds, got, lent, left, impl.CreditAfter(order, pay, left))
		}
	})
}

func TestCreditAfterIsWhatSomeOwe(t *testing.T) {
	eachClub(func(order []int, pay int, rounds int) {
		credit := 0
		for _, net := range impl.NetAfter(order, pay, rounds) {
			if net > 0 {
				credit += net
			}
		}
		if got := impl.CreditAfter(order, pay, rounds); got != credit {
			t.Errorf("CreditAfter(%v, %d, %d) = %d, not %d", order, pay, rounds, got, credit)
		}
	})
}

func TestSwapTurns(t *testing.T) {
	cases := []struct {
		order []int
		a     int
		b     int
		want  []int
	}{
		{[]int{2, 0, 1}, 2, 1, []int{1, 0, 2}},
		{[]int{2, 0, 1}, 1, 2, []int{1, 0, 2}},
		{[]int{2, 0, 1}, 0, 1, []int{2, 1, 0}},
		{[]int{2, 0, 1}, 0, 2, []int{0, 2, 1}},
		{[]int{2, 0, 1}, 2, 2, []int{2, 0, 1}},
		{[]int{0}, 0, 0, []int{0}},
		{[]int{0, 1}, 0, 1, []int{1, 0}},
		{[]int{0, 1}, 1, 1, []int{0, 1}},
		{[]int{3, 1, 0, 2}, 3, 2, []int{2, 1, 0, 3}},
		{upTo(impl.MaxMembers), 0, 11, []int{11, 1, 2, 3, 4, 5, 6, 7, 8, 9, 10, 0}},
		{upTo(impl.MaxMembers), 11, 11, upTo(impl.MaxMembers)},
	}
	for _, c := range cases {
		if got := impl.SwapTurns(c.order, c.a, c.b); !equal(got, c.want) {
			t.Errorf("SwapTurns(%v, %d, %d) = %v, not %v", c.order, c.a, c.b, got, c.want)
		}
	}
}

func TestSwapTurnsOfOtherMembers(t *testing.T) {
	for count := 1; count <= impl.MaxMembers; count++ {
		bad := []int{-1, -2, count, count + 1, 64, minInt, maxInt}
		for _, other := range bad {
			for _, member := range append([]int{0, count - 1}, bad...) {
				if len(impl.SwapTurns(upTo(count), member, other)) != 0 || len(impl.SwapTurns(upTo(count), other, member)) != 0 {
					t.Errorf("%d of %d members exchanged turns with %d", member, count, other)
				}
			}
		}
	}
}

func TestP58ExchangedTurnsAreExchangedBack(t *testing.T) {
	eachOrder(func(order []int) {
		for a := range order {
			for b := range order {
				checkSwap(t, order, a, b)
			}
		}
	})
}

// checkSwap fails if two members do not exchange their turns, or others do not keep theirs.
func checkSwap(t *testing.T, order []int, a int, b int) {
	t.Helper()
	swapped := impl.SwapTurns(order, a, b)
	if !impl.ValidOrder(swapped) || !equal(impl.SwapTurns(swapped, a, b), order) || !equal(impl.SwapTurns(order, b, a), swapped) {
		t.Errorf("SwapTurns(%v, %d, %d) = %v, and back %v", order, a, b, swapped, impl.SwapTurns(swapped, a, b))
		return
	}
	for turn, member := range order {
		want := member
		if member == a {
			want = b
		} else if member == b {
			want = a
		}
		if swapped[turn] != want {
			t.Errorf("SwapTurns(%v, %d, %d) = %v", order, a, b, swapped)
		}
	}
}
