package tests

import (
	"sort"
	"testing"

	"loop.example/savingsclub/impl"
)

// stakesNear returns stakes that are what members answer for, and more, as far as stakes can be so.
func stakesNear(list []impl.Loan, members int, more int) []int {
	var stakes []int
	for _, exposure := range impl.ExposureOf(list, members) {
		stakes = append(stakes, min(max(exposure+more, 0), impl.MaxLoan))
	}
	return stakes
}

// rolledStakes returns stakes, many of which are 0 or not enough for great loans.
func rolledStakes(members int, roll func(count int) int) []int {
	var stakes []int
	for member := 0; member < members; member++ {
		stakes = append(stakes, []int{0, roll(10), roll(300), roll(30000), impl.MaxLoan - roll(2)}[roll(5)])
	}
	return stakes
}

// someStakes returns stakes for loans: none, the greatest, some that are just enough, or 1 too few for one member, and others.
func someStakes(list []impl.Loan, members int) [][]int {
	exact := stakesNear(list, members, 0)
	all := [][]int{times(members, 0), times(members, impl.MaxLoan), exact, stakesNear(list, members, 13)}
	for member, stake := range exact {
		if stake > 0 && members < 4 {
			all = append(all, changedAt(exact, member, stake-1))
		}
	}
	roll := dice(amountsOf(list) + members)
	lacking := roll(members)
	return append(all, changedAt(exact, lacking, max(exact[lacking]-1, 0)), rolledStakes(members, roll), rolledStakes(members, roll))
}

// changedAt returns a list with another number at an index, as a new list.
func changedAt(list []int, index int, n int) []int {
	other := append([]int{}, list...)
	other[index] = n
	return other
}

// eachBacked calls check for stakes and loans that are valid for them, safe ones and others.
func eachBacked(check func(stakes []int, list []impl.Loan)) {
	eachDebts(func(list []impl.Loan, members int) {
		for _, stakes := range someStakes(list, members) {
			check(stakes, list)
		}
	})
}

// badStakes returns stakes that are not valid.
func badStakes() [][]int {
	all := [][]int{nil, {}, times(impl.MaxMembers+1, 0), times(impl.MaxMembers+1, 100), times(64, 0), times(1000, impl.MaxLoan)}
	for _, bad := range []int{-1, minInt, impl.MaxLoan + 1, 2 * impl.MaxLoan, 1 << 62, maxInt} {
		all = append(all, []int{bad}, []int{bad, 100, 100}, []int{100, bad, 100}, []int{100, 100, bad}, append(times(impl.MaxMembers-1, 100), bad), times(impl.MaxMembers, bad))
	}
	return all
}

// checkNoBacking fails if a function of stakes and loans is told.
func checkNoBacking(t *testing.T, stakes []int, list []impl.Loan) {
	t.Helper()
	if impl.SafeLoans(stakes, list) || len(impl.FreeStakes(stakes, list))+len(impl.ByRisk(stakes, list)) != 0 {
		t.Errorf("%v is enough for %v", stakes, list)
	}
	for _, l := range []impl.Loan{debt(0, 1, 1), debt(1, 1, 0), {}} {
		if got := impl.MostLoan(stakes, list, l); got != -1 {
			t.Errorf("MostLoan(%v, %v, %v) = %d", stakes, list, l, got)
		}
	}
	for i := -1; i <= len(list) && i < 3; i++ {
		if left, loss := impl.FailLoan(stakes, list, i); len(left) != 0 || loss != -1 {
			t.Errorf("FailLoan(%v, %v, %d) = %v, %d", stakes, list, i, left, loss)
		}
	}
	for first := -1; first <= len(stakes) && first < 15; first++ {
		if left, loss, failed := impl.Cascade(stakes, list, first); len(left)+len(failed) != 0 || loss != -1 {
			t.Errorf("Cascade(%v, %v, %d) = %v, %d, %v", stakes, list, first, left, loss, failed)
		}
	}
}

func TestStakesThatAreNotValid(t *testing.T) {
	for _, stakes := range badStakes() {
		checkNoBacking(t, stakes, nil)
		if len(stakes) > 1 {
			checkNoBacking(t, stakes, []impl.Loan{debt(0, 10, 1)})
			checkNoBacking(t, stakes, ringOf(2, 1))
		}
	}
}

func TestStakesForLoansThatAreNotValid(t *testing.T) {
	eachBadDebts(func(list []impl.Loan, members int) {
		if members < 0 || members > 1000 {
			return
		}
		checkNoBacking(t, times(members, impl.MaxLoan), list)
		checkNoBacking(t, times(members, 0), list)
	})
	checkNoBacking(t, times(2, impl.MaxLoan), []impl.Loan{debt(0, 10, 1), debt(1, 10, 2)})
}

func TestFreeStakesAndSafeLoans(t *testing.T) {
	two := []impl.Loan{debt(0, 100, 1, 2), debt(1, 50, 2)}
	cases := []struct {
		stakes []int
		list   []impl.Loan
		free   []int
		safe   bool
	}{
		{[]int{0}, nil, []int{0}, true},
		{[]int{impl.MaxLoan}, nil, []int{impl.MaxLoan}, true},
		{times(impl.MaxMembers, 7), nil, times(impl.MaxMembers, 7), true},
		{[]int{0, 80, 120}, two, []int{0, 30, 20}, true},
		{[]int{0, 50, 100}, two, []int{0, 0, 0}, true},
		{[]int{0, 49, 100}, two, []int{0, -1, 0}, false},
		{[]int{0, 50, 99}, two, []int{0, 0, -1}, false},
		{[]int{impl.MaxLoan, 50, 99}, two, []int{impl.MaxLoan, 0, -1}, false},
		{[]int{0, 0, 0}, two, []int{0, -50, -100}, false},
		{[]int{0, 4, 3}, []impl.Loan{debt(0, 7, 1, 2)}, []int{0, 0, 0}, true},
		{[]int{0, 3, 4}, []impl.Loan{debt(0, 7, 1, 2)}, []int{0, -1, 1}, false},
		{[]int{0, 3, 4}, []impl.Loan{debt(0, 7, 2, 1)}, []int{0, 0, 0}, true},
		{[]int{0, 0, 1}, []impl.Loan{debt(0, 1, 2, 1)}, []int{0, 0, 0}, true},
		{[]int{3, 3}, ringOf(2, 3), []int{0, 0}, true},
		{[]int{3, 2}, ringOf(2, 3), []int{0, -1}, false},
		{[]int{2, 3}, ringOf(2, 3), []int{-1, 0}, false},
		{[]int{0, impl.MaxLoan}, []impl.Loan{debt(0, impl.MaxLoan, 1)}, []int{0, 0}, true},
		{[]int{0, impl.MaxLoan}, []impl.Loan{debt(0, impl.MaxLoan, 1), debt(0, 1, 1)}, []int{0, -1}, false},
		{[]int{0, impl.MaxLoan}, times(impl.MaxLoans, debt(0, impl.MaxLoan, 1)), []int{0, -1500000}, false},
	}
	for _, c := range cases {
		if got := impl.FreeStakes(c.stakes, c.list); !equal(got, c.free) {
			t.Errorf("FreeStakes(%v, %v) = %v, not %v", c.stakes, c.list, got, c.free)
		}
		if got := impl.SafeLoans(c.stakes, c.list); got != c.safe {
			t.Errorf("SafeLoans(%v, %v) = %v", c.stakes, c.list, got)
		}
	}
}

func TestP81FreeIsWhatIsNotAnsweredFor(t *testing.T) {
	eachBacked(func(stakes []int, list []impl.Loan) {
		free := impl.FreeStakes(stakes, list)
		if len(free) != len(stakes) || !equal(added(free, impl.ExposureOf(list, len(stakes))), stakes) {
			t.Errorf("FreeStakes(%v, %v) = %v", stakes, list, free)
		}
	})
}

func TestSafeLoansHaveFreeStakes(t *testing.T) {
	eachBacked(func(stakes []int, list []impl.Loan) {
		want := true
		for member, exposure := range impl.ExposureOf(list, len(stakes)) {
			want = want && exposure <= stakes[member]
		}
		if got := impl.SafeLoans(stakes, list); got != want {
			t.Errorf("SafeLoans(%v, %v) = %v", stakes, list, got)
		}
	})
}

func TestP82FewerLoansAreSafer(t *testing.T) {
	found := 0
	eachBacked(func(stakes []int, list []impl.Loan) {
		if !impl.SafeLoans(stakes, list) {
			return
		}
		found += len(list)
		for i, l := range list {
			if !impl.SafeLoans(stakes, without(list, i)) {
				t.Errorf("%v is not enough for %v without loan %d", stakes, list, i)
			}
			_, loss := impl.FailLoan(stakes, list, i)
			_, lossAlone := impl.FailLoan(stakes, []impl.Loan{l}, 0)
			if loss != 0 || lossAlone != 0 {
				t.Errorf("FailLoan(%v, %v, %d) loses %d, and alone %d", stakes, list, i, loss, lossAlone)
			}
		}
	})
	if found < 1000 {
		t.Errorf("only %d loans are safe", found)
	}
}

func TestMostLoan(t *testing.T) {
	two := []impl.Loan{debt(0, 100, 1, 2), debt(1, 50, 2)}
	many := times(impl.MaxLoans, debt(0, 1, 1))
	cases := []struct {
		stakes []int
		list   []impl.Loan
		l      impl.Loan
		want   int
	}{
		{[]int{0, 80, 120}, two, debt(0, 0, 2), 20},
		{[]int{0, 80, 120}, two, debt(0, 0, 1, 2), 41},
		{[]int{0, 80, 120}, two, debt(0, 0, 2, 1), 40},
		{[]int{0, 80, 120}, two, debt(2, 0, 1), 30},
		{[]int{0, 80, 120}, two, debt(2, 0, 0), 0},
		{[]int{0, 80, 120}, two, debt(2, 0, 0, 1), 0},
		{[]int{0, 80, 120}, two, debt(2, 0, 1, 0), 1},
		{[]int{0, 50, 100}, two, debt(0, 0, 1), 0},
		{[]int{0, 50, 100}, two, debt(0, 0, 2, 1), 0},
		{[]int{0, 49, 100}, two, debt(0, 0, 2), -1},
		{[]int{0, 50, 99}, two, debt(2, 0, 0), -1},
		{[]int{9, 9, 9, 0}, nil, debt(0, 0, 1, 2, 3), 2},
		{[]int{9, 9, 0, 9}, nil, debt(0, 0, 1, 2, 3), 1},
		{[]int{9, 0, 9, 9}, nil, debt(0, 0, 1, 2, 3), 0},
		{[]int{0, 9, 9, 9}, nil, debt(0, 0, 1, 2, 3), 27},
		{[]int{0, 9, 9, 8}, nil, debt(0, 0, 1, 2, 3), 26},
		{[]int{0, 9, 8, 9}, nil, debt(0, 0, 1, 2, 3), 25},
		{[]int{0, 8, 9, 9}, nil, debt(0, 0, 1, 2, 3), 24},
		{[]int{0, impl.MaxLoan}, nil, debt(0, 0, 1), impl.MaxLoan},
		{[]int{0, impl.MaxLoan - 1}, nil, debt(0, 0, 1), impl.MaxLoan - 1},
		{[]int{0, impl.MaxLoan / 2, impl.MaxLoan / 2}, nil, debt(0, 0, 1, 2), impl.MaxLoan},
		{[]int{0, impl.MaxLoan / 2, impl.MaxLoan/2 - 1}, nil, debt(0, 0, 1, 2), impl.MaxLoan - 1},
		{[]int{0, impl.MaxLoan/2 - 1, impl.MaxLoan / 2}, nil, debt(0, 0, 1, 2), impl.MaxLoan - 2},
		{[]int{0, impl.MaxLoan, impl.MaxLoan}, nil, debt(0, 0, 1, 2), impl.MaxLoan},
		{times(impl.MaxMembers, impl.MaxLoan), nil, debt(11, 0, upTo(11)...), impl.MaxLoan},
		{times(impl.MaxMembers, 9091), nil, debt(11, 0, upTo(11)...), impl.MaxLoan},
		{times(impl.MaxMembers, 9090), nil, debt(11, 0, upTo(11)...), 99990},
		{[]int{0, impl.MaxLoan}, []impl.Loan{debt(0, impl.MaxLoan, 1)}, debt(0, 0, 1), 0},
		{[]int{0, impl.MaxLoan}, []impl.Loan{debt(0, impl.MaxLoan-1, 1)}, debt(0, 0, 1), 1},
		{[]int{5, 3}, ringOf(2, 3), debt(1, 0, 0), 2},
		{[]int{5, 3}, ringOf(2, 3), debt(0, 0, 1), 0},
		{[]int{0, 100}, many[1:], debt(0, 0, 1), 85},
		{[]int{0, 100}, many, debt(0, 0, 1), -1},
		{[]int{0, 15}, many[1:], debt(0, 0, 1), 0},
		{[]int{0, 14}, many[1:], debt(0, 0, 1), -1},
		{[]int{0}, nil, debt(0, 1), -1},
	}
	for _, c := range cases {
		for _, amount := range []int{0, 1, -1, 1000, impl.MaxLoan + 1, minInt, maxInt} {
			if got := impl.MostLoan(c.stakes, c.list, debt(c.l.Borrower, amount, c.l.Guards...)); got != c.want {
				t.Errorf("MostLoan(%v, %v, %v) = %d, not %d", c.stakes, c.list, c.l, got, c.want)
			}
		}
	}
}

func TestMostLoanOfOtherArguments(t *testing.T) {
	for _, bad := range badDebts() {
		if impl.ValidLoans([]impl.Loan{debt(bad.Borrower, 1, bad.Guards...)}, manyMembers) {
			continue
		}
		for _, list := range [][]impl.Loan{nil, {debt(0, 10, 1)}} {
			if got := impl.MostLoan(times(manyMembers, 100), list, bad); got != -1 {
				t.Errorf("MostLoan(%v, %v) = %d", list, bad, got)
			}
		}
	}
	eachBacked(func(stakes []int, list []impl.Loan) {
		if len(stakes) == 1 || impl.SafeLoans(stakes, list) && len(list) < impl.MaxLoans {
			return
		}
		for _, l := range []impl.Loan{debt(0, 1, 1), debt(1, 1, 0)} {
			if got := impl.MostLoan(stakes, list, l); got != -1 {
				t.Errorf("MostLoan(%v, %v, %v) = %d", stakes, list, l, got)
			}
		}
	})
}

// oneMore returns loans with one more of an amount, as a new list.
func oneMore(list []impl.Loan, l impl.Loan, amount int) []impl.Loan {
	return append(append([]impl.Loan{}, list...), debt(l.Borrower, amount, l.Guards...))
}

// someGuarded returns loans, one of each kind that members can have: with one guard, with all others in both orders, and as told.
func someGuarded(members int, roll func(count int) int) []impl.Loan {
	list := []impl.Loan{
		debt(0, 1, members-1), debt(members-1, 1, 0), debt(0, 1, othersThan(members, 0)...), debt(1, 1, reversed(othersThan(members, 1))...),
	}
	for i := 0; i < 3; i++ {
		borrower := roll(members)
		order := mixed(members-1, roll(50))
		list = append(list, debt(borrower, 1, pick(othersThan(members, borrower), order[:1+roll(members-1)])...))
	}
	return list
}

// eachOneMore calls check for stakes, loans that are safe with them, and one more loan that is valid with them.
func eachOneMore(check func(stakes []int, list []impl.Loan, l impl.Loan)) {
	eachBacked(func(stakes []int, list []impl.Loan) {
		if len(stakes) == 1 || len(list) >= impl.MaxLoans || !impl.SafeLoans(stakes, list) {
			return
		}
		for _, l := range someGuarded(len(stakes), dice(sumOf(stakes)+len(list))) {
			check(stakes, list, l)
		}
	})
}

func TestP84TheGreatestLoanIsSafe(t *testing.T) {
	found := 0
	eachOneMore(func(stakes []int, list []impl.Loan, l impl.Loan) {
		most := impl.MostLoan(stakes, list, l)
		if most < 0 || most > impl.MaxLoan {
			t.Errorf("MostLoan(%v, %v, %v) = %d", stakes, list, l, most)
		}
		if most > 0 && !impl.SafeLoans(stakes, oneMore(list, l, most)) {
			t.Errorf("MostLoan(%v, %v, %v) = %d, which is not safe", stakes, list, l, most)
		}
		if most < impl.MaxLoan && impl.SafeLoans(stakes, oneMore(list, l, most+1)) {
			t.Errorf("MostLoan(%v, %v, %v) = %d, but 1 more is safe", stakes, list, l, most)
		}
		if most > 0 && most < impl.MaxLoan {
			found++
		}
	})
	if found < 1000 {
		t.Errorf("only %d greatest loans are in between", found)
	}
}

// Whoever looks at each amount finds the same one, also if greater ones were safe again.
func TestMostLoanIsTheGreatestOfAll(t *testing.T) {
	for free := 0; free < 27; free++ {
		stakes := []int{free % 3, free / 3 % 3, free / 9, 2}
		for _, l := range allDebts(4, 1) {
			want := 0
			for amount := 1; amount <= 20; amount++ {
				if impl.SafeLoans(stakes, []impl.Loan{debt(l.Borrower, amount, l.Guards...)}) {
					want = amount
				}
			}
			if got := impl.MostLoan(stakes, nil, l); got != want {
				t.Errorf("MostLoan(%v, nil, %v) = %d, not %d", stakes, l, got, want)
			}
		}
	}
}

func TestByRisk(t *testing.T) {
	two := []impl.Loan{debt(0, 100, 1, 2), debt(1, 50, 2)}
	cases := []struct {
		stakes []int
		list   []impl.Loan
		want   []int
	}{
		{[]int{0}, nil, []int{0}},
		{[]int{0, 0, 0}, nil, []int{0, 1, 2}},
		{[]int{2, 1, 0}, nil, []int{2, 1, 0}},
		{[]int{5, 0, 5, 0}, nil, []int{1, 3, 0, 2}},
		{[]int{0, 80, 120}, two, []int{0, 2, 1}},
		{[]int{0, 50, 100}, two, []int{0, 1, 2}},
		{[]int{1, 50, 99}, two, []int{2, 1, 0}},
		{[]int{0, 0, 50}, two, []int{1, 2, 0}},
		{[]int{0, 0, 51}, two, []int{1, 2, 0}},
		{[]int{0, 0, 49}, two, []int{2, 1, 0}},
		{times(impl.MaxMembers, impl.MaxLoan), nil, upTo(impl.MaxMembers)},
		{reversed(upTo(impl.MaxMembers)), nil, reversed(upTo(impl.MaxMembers))},
		{[]int{7, impl.MaxLoan}, times(impl.MaxLoans, debt(0, impl.MaxLoan, 1)), []int{1, 0}},
	}
	for _, c := range cases {
		if got := impl.ByRisk(c.stakes, c.list); !equal(got, c.want) {
			t.Errorf("ByRisk(%v, %v) = %v, not %v", c.stakes, c.list, got, c.want)
		}
	}
}

func TestByRiskIsSorted(t *testing.T) {
	check := func(stakes []int, list []impl.Loan) {
		free := impl.FreeStakes(stakes, list)
		want := upTo(len(stakes))
		sort.SliceStable(want, func(i int, k int) bool { return free[want[i]] < free[want[k]] })
		if got := impl.ByRisk(stakes, list); !equal(got, want) {
			t.Errorf("ByRisk(%v, %v) = %v, not %v", stakes, list, got, want)
		}
	}
	eachBacked(check)
	for members := 1; members <= 5; members++ {
		for _, stakes := range allLists(members, []int{0, 7, impl.MaxLoan}) {
			check(stakes, nil)
		}
	}
}

func TestP91TheWeakestIsFirst(t *testing.T) {
	eachBacked(func(stakes []int, list []impl.Loan) {
		order := impl.ByRisk(stakes, list)
		free := impl.FreeStakes(stakes, list)
		if !impl.ValidOrder(order) || len(order) != len(stakes) {
			t.Errorf("ByRisk(%v, %v) = %v", stakes, list, order)
			return
		}
		for i := 1; i < len(order); i++ {
			if free[order[i]] < free[order[i-1]] {
				t.Errorf("ByRisk(%v, %v) = %v, but free are %v", stakes, list, order, free)
			}
		}
	})
}
