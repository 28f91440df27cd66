package tests

import (
	"testing"

	"loop.example/savingsclub/impl"
)

// somePots returns bids of each kind: none, the least ones, one in between, and the whole pot.
func somePots(members int, pay int) []int {
	pot := members * pay
	values := []int{-1, 0}
	for _, bid := range []int{1, pot/2 + 1, pot} {
		if bid <= pot && !contains(values, bid) {
			values = append(values, bid)
		}
	}
	return values
}

// manyBids returns bids of count members, up to the pot, that are told by a number.
func manyBids(count int, pay int, by int) []int {
	var bids []int
	for i := 0; i < count; i++ {
		bids = append(bids, (by*(i+7)*(i+7)+by*by+i*i*by)%(count*pay+2)-1)
	}
	return bids
}

// eachAuction calls check for bids and members who are done: all of few members with bids of each kind, and some of more.
func eachAuction(check func(bids []int, pay int, done []int)) {
	for members := 1; members <= 4; members++ {
		for _, pay := range []int{0, 1, 10, impl.MaxPay} {
			for _, bids := range allLists(members, somePots(members, pay)) {
				for _, done := range subsets(members) {
					check(bids, pay, done)
				}
			}
		}
	}
	for members := 5; members <= impl.MaxMembers; members++ {
		for _, pay := range somePayments() {
			check(times(members, -1), pay, nil)
			check(times(members, members*pay), pay, []int{members - 1, 0})
			for by := 0; by < 20; by++ {
				order := mixed(members, by)
				for done := 0; done <= members; done++ {
					check(manyBids(members, pay, by), pay, order[:done])
				}
			}
		}
	}
}

// badDone returns lists that are not of different members of a club of count members.
func badDone(count int) [][]int {
	return [][]int{
		{-1}, {count}, {count + 1}, {minInt}, {maxInt}, {0, 0}, {count - 1, count - 1}, {0, count}, {-1, 0}, {0, 64}, {64},
		append(upTo(count), 0), append(upTo(count), count), append(upTo(count), upTo(count)...), times(100, 0), upTo(100),
	}
}

// badAuctions returns bids for a pay of 10 that are not valid.
func badAuctions() [][]int {
	return [][]int{
		nil, {}, {-2}, {11}, {minInt}, {maxInt}, {-2, 0}, {0, -2}, {21, 0}, {0, 21}, {31, 0, 0}, {0, 31, 0}, {0, 0, 31}, {5, -2, 8},
		{minInt, 0, 0}, {0, 0, maxInt}, {1, 2, 3, 41}, times(impl.MaxMembers, 121), append(times(impl.MaxMembers-1, 120), 121),
		append(times(impl.MaxMembers-1, -1), -2), times(impl.MaxMembers+1, 0), times(impl.MaxMembers+1, -1), times(64, 0), times(1000, 1),
	}
}

// checkNoRound fails if WinnerOf or PayoutsOf is told.
func checkNoRound(t *testing.T, bids []int, pay int, done []int) {
	t.Helper()
	if got := impl.WinnerOf(bids, pay, done); got != -1 {
		t.Errorf("WinnerOf(%v, %d, %v) = %d", bids, pay, done, got)
	}
	if got := impl.PayoutsOf(bids, pay, done); len(got) != 0 {
		t.Errorf("PayoutsOf(%v, %d, %v) = %v", bids, pay, done, got)
	}
}

func TestWinnerAndPayoutsOf(t *testing.T) {
	whole := impl.MaxMembers * impl.MaxPay
	cases := []struct {
		bids    []int
		pay     int
		done    []int
		winner  int
		payouts []int
	}{
		{[]int{5, 8, 8}, 10, nil, 1, []int{4, 22, 4}},
		{[]int{5, 8, 8}, 10, []int{1}, 2, []int{4, 4, 22}},
		{[]int{5, 8, 8}, 10, []int{2, 1}, 0, []int{25, 3, 2}},
		{[]int{5, 8, 8}, 10, []int{0}, 1, []int{4, 22, 4}},
		{[]int{5, 8, 9}, 10, []int{1}, 2, []int{5, 4, 21}},
		{[]int{9, 0, 3}, 10, []int{1}, 0, []int{21, 5, 4}},
		{[]int{0, -1, 7}, 10, nil, 2, []int{4, 3, 23}},
		{[]int{0, 7, -1}, 10, nil, 1, []int{4, 23, 3}},
		{[]int{7, 7, 7}, 10, nil, 0, []int{23, 4, 3}},
		{[]int{1, 0, 0, 0}, 10, nil, 0, []int{39, 1, 0, 0}},
		{[]int{0, 0, 0, 2}, 10, nil, 3, []int{1, 1, 0, 38}},
		{[]int{0, 0, 0}, 10, nil, 0, []int{30, 0, 0}},
		{[]int{-1, -1}, 10, nil, 0, []int{20, 0}},
		{[]int{-1, -1}, 10, []int{0}, 1, []int{0, 20}},
		{[]int{-1, 0}, 10, nil, 1, []int{0, 20}},
		{[]int{0, -1}, 10, []int{0}, 1, []int{0, 20}},
		{[]int{-1, 8}, 10, []int{1}, 0, []int{20, 0}},
		{[]int{-1, 0, -1}, 10, []int{1}, 0, []int{30, 0, 0}},
		{[]int{-1, -1, -1}, 10, []int{0}, 1, []int{0, 30, 0}},
		{[]int{30, 0, 0}, 10, nil, 0, []int{0, 15, 15}},
		{[]int{0, 30, 30}, 10, nil, 1, []int{15, 0, 15}},
		{[]int{0, 30}, 15, nil, 1, []int{30, 0}},
		{[]int{3}, 10, nil, 0, []int{10}},
		{[]int{10}, 10, nil, 0, []int{10}},
		{[]int{-1}, 10, nil, 0, []int{10}},
		{[]int{0}, 0, nil, 0, []int{0}},
		{[]int{-1}, 0, nil, 0, []int{0}},
		{[]int{impl.MaxPay}, impl.MaxPay, nil, 0, []int{impl.MaxPay}},
		{[]int{0, 0, 0}, 0, []int{0}, 1, []int{0, 0, 0}},
		{times(impl.MaxMembers, -1), 1, upTo(11), 11, append(times(11, 0), 12)},
		{times(impl.MaxMembers, whole), impl.MaxPay, reversed(upTo(11)), 11, append(append([]int{10910}, times(10, 10909)...), 0)},
		{append(times(11, 0), 10), impl.MaxPay, nil, 11, append(append(times(10, 1), 0), 119990)},
	}
	for _, c := range cases {
		if got := impl.WinnerOf(c.bids, c.pay, c.done); got != c.winner {
			t.Errorf("WinnerOf(%v, %d, %v) = %d, not %d", c.bids, c.pay, c.done, got, c.winner)
		}
		if got := impl.PayoutsOf(c.bids, c.pay, c.done); !equal(got, c.payouts) {
			t.Errorf("PayoutsOf(%v, %d, %v) = %v, not %v", c.bids, c.pay, c.done, got, c.payouts)
		}
	}
}

func TestRoundsInWhichAllAreDone(t *testing.T) {
	for count := 1; count <= impl.MaxMembers; count++ {
		for by := 0; by < 5; by++ {
			checkNoRound(t, manyBids(count, 10, by), 10, mixed(count, by))
			checkNoRound(t, times(count, -1), 0, mixed(count, by))
		}
	}
}

func TestWinnerOfOtherArguments(t *testing.T) {
	for _, bids := range badAuctions() {
		for _, done := range [][]int{nil, {}, {0}, {1}, {2, 1}} {
			checkNoRound(t, bids, 10, done)
		}
	}
	for count := 1; count <= impl.MaxMembers; count++ {
		for _, done := range badDone(count) {
			checkNoRound(t, times(count, 1), 10, done)
			checkNoRound(t, times(count, -1), 0, done)
		}
		for _, pay := range badPayments() {
			checkNoRound(t, times(count, 0), pay, nil)
			checkNoRound(t, times(count, -1), pay, nil)
		}
		checkNoRound(t, times(count, 1), 0, nil)
	}
}

func TestBidsOfWhoIsDoneAreBidsStill(t *testing.T) {
	checkNoRound(t, []int{0, 31, 0}, 10, []int{1})
	checkNoRound(t, []int{-2, 0, 0}, 10, []int{0, 1})
	if got := impl.WinnerOf([]int{0, 30, 0}, 10, []int{1}); got != 0 {
		t.Errorf("the winner is %d", got)
	}
}

func TestP45TheHighestBidWins(t *testing.T) {
	eachAuction(func(bids []int, pay int, done []int) {
		winner := impl.WinnerOf(bids, pay, done)
		if len(done) == len(bids) {
			if winner != -1 {
				t.Errorf("WinnerOf(%v, %d, %v) = %d", bids, pay, done, winner)
			}
			return
		}
		if winner < 0 || winner >= len(bids) || contains(done, winner) {
			t.Errorf("WinnerOf(%v, %d, %v) = %d", bids, pay, done, winner)
			return
		}
		for member, bid := range bids {
			if !contains(done, member) && (bid > bids[winner] || member < winner && bid == bids[winner]) {
				t.Errorf("WinnerOf(%v, %d, %v) = %d, not %d", bids, pay, done, winner, member)
			}
		}
	})
}

func TestDoneMembersAreInAnyOrder(t *testing.T) {
	eachAuction(func(bids []int, pay int, done []int) {
		if got, want := impl.WinnerOf(bids, pay, reversed(done)), impl.WinnerOf(bids, pay, done); got != want {
			t.Errorf("WinnerOf(%v, %d, %v) = %d, and in reverse order %d", bids, pay, done, want, got)
		}
	})
}

// bidOf returns what a bid costs: nothing if there is none.
func bidOf(bid int) int {
	if bid < 0 {
		return 0
	}
	return bid
}

func TestP46TheWholePotIsPaid(t *testing.T) {
	eachAuction(func(bids []int, pay int, done []int) {
		winner := impl.WinnerOf(bids, pay, done)
		payouts := impl.PayoutsOf(bids, pay, done)
		if winner < 0 {
			if len(payouts) != 0 {
				t.Errorf("PayoutsOf(%v, %d, %v) = %v", bids, pay, done, payouts)
			}
			return
		}
		pot := impl.PotOf(len(bids), pay)
		want := pot
		if len(bids) > 1 {
			want -= bidOf(bids[winner])
		}
		if len(payouts) != len(bids) || sumOf(payouts) != pot || payouts[winner] != want {
			t.Errorf("PayoutsOf(%v, %d, %v) = %v", bids, pay, done, payouts)
		}
	})
}

// payoutsByUnits returns what each member gets when the bid is dealt one by one to the others.
func payoutsByUnits(bids []int, pay int, winner int) []int {
	payouts := make([]int, len(bids))
	payouts[winner] = len(bids) * pay
	for member := 0; len(bids) > 1 && payouts[winner] > len(bids)*pay-bids[winner]; member = (member + 1) % len(bids) {
		if member != winner {
			payouts[member]++
			payouts[winner]--
		}
	}
	return payouts
}

func TestPayoutsOfAreDealtOneByOne(t *testing.T) {
	eachAuction(func(bids []int, pay int, done []int) {
		winner := impl.WinnerOf(bids, pay, done)
		if winner < 0 || pay > 10 {
			return
		}
		if got, want := impl.PayoutsOf(bids, pay, done), payoutsByUnits(bids, pay, winner); !equal(got, want) {
			t.Errorf("PayoutsOf(%v, %d, %v) = %v, not %v", bids, pay, done, got, want)
		}
	})
}

// tableOf returns as many bids of as many members as there are numbers in the square.
func tableOf(count int, square []int) [][]int {
	var table [][]int
	for round := 0; round < count; round++ {
		table = append(table, append([]int{}, square[round*count:(round+1)*count]...))
	}
	return table
}

// eachTable calls check for tables of bids: of few members all with some values, and some of more.
func eachTable(check func(table [][]int, pay int)) {
	for _, pay := range []int{0, 1, 7, impl.MaxPay} {
		for count := 1; count <= 2; count++ {
			for _, square := range allLists(count*count, somePots(count, pay)) {
				check(tableOf(count, square), pay)
			}
		}
	}
	for _, square := range allLists(9, []int{-1, 0, 5}) {
		check(tableOf(3, square), 7)
	}
	for count := 3; count <= impl.MaxMembers; count++ {
		for _, pay := range somePayments() {
			for by := 0; by < 20; by++ {
				var table [][]int
				for round := 0; round < count; round++ {
					table = append(table, manyBids(count, pay, by*(round+1)+round))
				}
				check(table, pay)
			}
		}
	}
}

// badTables returns tables of bids for a pay of 10 that are not valid.
func badTables() [][][]int {
	return [][][]int{
		nil, {}, {nil}, {{}}, {{}, {}}, {{0, 0}}, {{0}, {0}}, {{0}, {0, 0}}, {{0, 0}, {0}}, {{0, 0}, nil}, {nil, {0, 0}},
		{{-2}}, {{11}}, {{minInt}}, {{maxInt}}, {{0, 0}, {0, 0, 0}}, {{0, 0, 0}, {0, 0, 0}}, {{0, 0}, {0, 0}, {0, 0}},
		{{0, 0}, {0, 21}}, {{0, 0}, {21, 0}}, {{0, 21}, {0, 0}}, {{0, -2}, {0, 0}}, {{0, 0}, {-2, 0}}, {{0, 0}, {0, -2}},
		{{5, 8, 8}, {9, 0, 3}}, {{5, 8, 8}, {9, 0, 3}, {0, 0}}, {{5, 8, 8}, {9, 0, 3}, {0, 0, 0, 0}}, {{5, 8, 8}, {9, 0, 3}, {0, 31, 0}},
		{{5, 8, 8}, {9, 0, 3}, {0, 0, -2}}, {{5, 8, 8}, {9, 0, 3}, nil}, {{5, 8, 8}, {9, 0, 3}, {0, 0, 0}, {0, 0, 0}},
		manyTimes(impl.MaxMembers, times(impl.MaxMembers+1, 0)...), manyTimes(impl.MaxMembers+1, times(impl.MaxMembers, 0)...),
		manyTimes(impl.MaxMembers+1, times(impl.MaxMembers+1, 0)...), manyTimes(impl.MaxMembers, times(impl.MaxMembers-1, 0)...),
		manyTimes(impl.MaxMembers-1, times(impl.MaxMembers, 0)...), manyTimes(100, times(100, -1)...),
		append(manyTimes(impl.MaxMembers-1, times(impl.MaxMembers, 0)...), append(times(impl.MaxMembers-1, 0), 121)),
	}
}

// checkNoTable fails if BidOrder or BidNets is told.
func checkNoTable(t *testing.T, table [][]int, pay int) {
	t.Helper()
	if order, nets := impl.BidOrder(table, pay), impl.BidNets(table, pay); len(order) != 0 || len(nets) != 0 {
		t.Errorf("%v for %d have the answers %v and %v", table, pay, order, nets)
	}
}

func TestBidOrderAndNets(t *testing.T) {
	cases := []struct {
		table [][]int
		pay   int
		order []int
		nets  []int
	}{
		{[][]int{{5, 8, 8}, {9, 0, 3}, {0, 0, 0}}, 10, []int{1, 0, 2}, []int{-5, -3, 8}},
		{[][]int{{5, 8, 8}, {5, 8, 8}, {5, 8, 8}}, 10, []int{1, 2, 0}, []int{3, -1, -2}},
		{[][]int{{0, 0, 30}, {30, 0, 0}, {30, 30, 30}}, 10, []int{2, 0, 1}, []int{0, 0, 0}},
		{[][]int{{0, 0, 30}, {0, 0, 30}, {0, 0, 30}}, 10, []int{2, 0, 1}, []int{15, 15, -30}},
		{[][]int{{-1, -1, -1}, {-1, -1, -1}, {-1, -1, -1}}, 10, []int{0, 1, 2}, []int{0, 0, 0}},
		{[][]int{{-1, -1, 0}, {-1, 3, 30}, {-1, -1, -1}}, 10, []int{2, 1, 0}, []int{2, -3, 1}},
		{[][]int{{3}}, 10, []int{0}, []int{0}},
		{[][]int{{-1}}, 10, []int{0}, []int{0}},
		{[][]int{{0}}, 0, []int{0}, []int{0}},
		{[][]int{{10}}, 10, []int{0}, []int{0}},
		{[][]int{{0, 1}, {20, 5}}, 10, []int{1, 0}, []int{-19, 19}},
		{[][]int{{1, 1}, {0, 2}}, 10, []int{0, 1}, []int{1, -1}},
		{[][]int{{0, -1}, {-1, 0}}, 0, []int{0, 1}, []int{0, 0}},
		{manyTimes(impl.MaxMembers, times(impl.MaxMembers, 0)...), impl.MaxPay, upTo(impl.MaxMembers), times(impl.MaxMembers, 0)},
		{manyTimes(impl.MaxMembers, upTo(impl.MaxMembers)...), 1, reversed(upTo(impl.MaxMembers)), []int{11, 9, 7, 5, 3, 1, -1, -3, -5, -7, -9, -11}},
	}
	for _, c := range cases {
		if got := impl.BidOrder(c.table, c.pay); !equal(got, c.order) {
			t.Errorf("BidOrder(%v, %d) = %v, not %v", c.table, c.pay, got, c.order)
		}
		if got := impl.BidNets(c.table, c.pay); !equal(got, c.nets) {
			t.Errorf("BidNets(%v, %d) = %v, not %v", c.table, c.pay, got, c.nets)
		}
	}
}

func TestBidOrderOfOtherTables(t *testing.T) {
	for _, table := range badTables() {
		checkNoTable(t, table, 10)
	}
	for _, pay := range badPayments() {
		checkNoTable(t, [][]int{{0}}, pay)
		checkNoTable(t, [][]int{{-1, -1}, {-1, -1}}, pay)
		checkNoTable(t, nil, pay)
	}
	checkNoTable(t, [][]int{{0, 1}, {0, 0}}, 0)
	checkNoTable(t, [][]int{{0, 0}, {1, 0}}, 0)
}

func TestP47EachMemberGetsThePotOnce(t *testing.T) {
	eachTable(func(table [][]int, pay int) {
		order := impl.BidOrder(table, pay)
		if len(order) != len(table) || !impl.ValidOrder(order) {
			t.Errorf("BidOrder(%v, %d) = %v", table, pay, order)
			return
		}
		for round, member := range order {
			if want := impl.WinnerOf(table[round], pay, order[:round]); member != want {
				t.Errorf("BidOrder(%v, %d) = %v, with %d, not %d", table, pay, order, member, want)
			}
		}
	})
}

func TestP48BidsOnlyMoveMoney(t *testing.T) {
	eachTable(func(table [][]int, pay int) {
		nets := impl.BidNets(table, pay)
		if len(nets) != len(table) || sumOf(nets) != 0 {
			t.Errorf("BidNets(%v, %d) = %v", table, pay, nets)
			return
		}
		for member, net := range nets {
			if neverBids(table, member) && net < 0 {
				t.Errorf("BidNets(%v, %d) = %v", table, pay, nets)
			}
		}
	})
}

// neverBids reports whether a member bids no more than 0 in any round.
func neverBids(table [][]int, member int) bool {
	for _, bids := range table {
		if bids[member] > 0 {
			return false
		}
	}
	return true
}

func TestBidNetsAreAllPayouts(t *testing.T) {
	eachTable(func(table [][]int, pay int) {
		order := impl.BidOrder(table, pay)
		want := times(len(table), -len(table)*pay)
		for round, bids := range table {
			for member, payout := range impl.PayoutsOf(bids, pay, order[:round]) {
				want[member] += payout
			}
		}
		if got := impl.BidNets(table, pay); !equal(got, want) {
			t.Errorf("BidNets(%v, %d) = %v, not %v", table, pay, got, want)
		}
	})
}

func TestP49WithoutBidsTheClubIsThePlainOne(t *testing.T) {
	for count := 1; count <= impl.MaxMembers; count++ {
		for _, pay := range somePayments() {
			for _, bid := range []int{-1, 0} {
				table := manyTimes(count, times(count, bid)...)
				order := impl.BidOrder(table, pay)
				nets := impl.BidNets(table, pay)
				if !equal(order, upTo(count)) || !equal(nets, times(count, 0)) || !equal(nets, impl.NetAfter(order, pay, count)) {
					t.Errorf("BidOrder(%v, %d) = %v, and BidNets %v", table, pay, order, nets)
				}
			}
		}
	}
}
