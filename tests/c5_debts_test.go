package tests

import (
	"fmt"
	"testing"

	"loop.example/savingsclub/impl"
)

// somePaid returns what can be paid of an amount: 1, all, and some in between.
func somePaid(amount int) []int {
	var list []int
	for _, paid := range []int{1, 2, amount / 2, amount - 1, amount} {
		if paid >= 1 && paid <= amount && !contains(list, paid) {
			list = append(list, paid)
		}
	}
	return list
}

// eachPayment calls check for valid loans and what can be paid of each of them.
func eachPayment(check func(list []impl.Loan, members int, i int, amount int)) {
	eachDebts(func(list []impl.Loan, members int) {
		for i, l := range list {
			for _, amount := range somePaid(l.Amount) {
				check(list, members, i, amount)
			}
		}
	})
}

func TestPayLoan(t *testing.T) {
	two := []impl.Loan{debt(0, 100, 1, 2), debt(1, 50, 2)}
	same := times(3, debt(1, 2, 0))
	cases := []struct {
		list   []impl.Loan
		i      int
		amount int
		want   []impl.Loan
	}{
		{two, 0, 1, []impl.Loan{debt(0, 99, 1, 2), debt(1, 50, 2)}},
		{two, 0, 40, []impl.Loan{debt(0, 60, 1, 2), debt(1, 50, 2)}},
		{two, 0, 99, []impl.Loan{debt(0, 1, 1, 2), debt(1, 50, 2)}},
		{two, 0, 100, []impl.Loan{debt(1, 50, 2)}},
		{two, 0, 101, nil},
		{two, 0, 0, nil},
		{two, 0, -1, nil},
		{two, 1, 1, []impl.Loan{debt(0, 100, 1, 2), debt(1, 49, 2)}},
		{two, 1, 50, []impl.Loan{debt(0, 100, 1, 2)}},
		{two, 1, 51, nil},
		{two, 1, 100, nil},
		{two, 2, 1, nil},
		{two, -1, 1, nil},
		{same, 0, 2, same[:2]},
		{same, 1, 1, []impl.Loan{debt(1, 2, 0), debt(1, 1, 0), debt(1, 2, 0)}},
		{same, 2, 1, []impl.Loan{debt(1, 2, 0), debt(1, 2, 0), debt(1, 1, 0)}},
		{same, 2, 3, nil},
		{same[:1], 0, 1, []impl.Loan{debt(1, 1, 0)}},
		{same[:1], 0, 2, nil},
		{[]impl.Loan{debt(0, 1, 1)}, 0, 1, nil},
		{[]impl.Loan{debt(0, impl.MaxLoan, 2, 1)}, 0, impl.MaxLoan - 1, []impl.Loan{debt(0, 1, 2, 1)}},
		{[]impl.Loan{debt(0, impl.MaxLoan, 2, 1)}, 0, impl.MaxLoan, nil},
		{nil, 0, 1, nil},
		{times(impl.MaxLoans, debt(2, 5, 1, 0)), 15, 5, times(impl.MaxLoans-1, debt(2, 5, 1, 0))},
	}
	for _, c := range cases {
		if got := impl.PayLoan(c.list, 3, c.i, c.amount); !equalDebts(got, c.want) {
			t.Errorf("PayLoan(%v, 3, %d, %d) = %v, not %v", c.list, c.i, c.amount, got, c.want)
		}
	}
}

func TestPayLoanOfOtherArguments(t *testing.T) {
	eachDebts(func(list []impl.Loan, members int) {
		for _, i := range []int{-1, minInt, len(list), len(list) + 1, maxInt} {
			if got := impl.PayLoan(list, members, i, 1); len(got) != 0 {
				t.Errorf("PayLoan(%v, %d, %d, 1) = %v", list, members, i, got)
			}
		}
		for i, l := range list {
			for _, amount := range []int{0, -1, -l.Amount, minInt, l.Amount + 1, 2 * l.Amount, impl.MaxLoan + 1, maxInt} {
				if got := impl.PayLoan(list, members, i, amount); len(got) != 0 {
					t.Errorf("PayLoan(%v, %d, %d, %d) = %v", list, members, i, amount, got)
				}
			}
		}
	})
}

func TestP89PaidIsPaid(t *testing.T) {
	eachPayment(func(list []impl.Loan, members int, i int, amount int) {
		got := impl.PayLoan(list, members, i, amount)
		want := append([]impl.Loan{}, list...)
		want[i].Amount -= amount
		if want[i].Amount == 0 {
			want = without(want, i)
		}
		if !equalDebts(got, want) || amountsOf(got) != amountsOf(list)-amount {
			t.Errorf("PayLoan(%v, %d, %d, %d) = %v, not %v", list, members, i, amount, got, want)
		}
		for _, first := range somePaid(amount) {
			if first == amount {
				continue
			}
			if twice := impl.PayLoan(impl.PayLoan(list, members, i, first), members, i, amount-first); !equalDebts(twice, got) {
				t.Errorf("PayLoan(%v, %d, %d) of %d and %d is %v, not %v", list, members, i, first, amount-first, twice, got)
			}
		}
	})
}

// alikes returns loans, of which many are alike.
func alikes(roll func(count int) int) []impl.Loan {
	var list []impl.Loan
	for count := roll(impl.MaxLoans + 1); count > 0; count-- {
		guards := [][]int{{0}, {2}, {0, 2}, {2, 0}, {2, 0, 3}}[roll(5)]
		list = append(list, debt([]int{1, 4}[roll(2)], 1+roll(9)+roll(2)*roll(impl.MaxLoan/2), guards...))
	}
	return list
}

// eachAlikes calls check for valid loans, many of them with others that are alike.
func eachAlikes(check func(list []impl.Loan, members int)) {
	eachDebts(check)
	for by := 0; by < 1000; by++ {
		check(alikes(dice(by)), 5)
	}
}

// mergedByKeys returns loans with one in the place of all with the same text of borrower and guards, and whether they are not too great.
func mergedByKeys(list []impl.Loan) ([]impl.Loan, bool) {
	amounts := map[string]int{}
	var merged []impl.Loan
	for _, l := range list {
		key := fmt.Sprint(l.Borrower, l.Guards)
		if amounts[key] == 0 {
			merged = append(merged, l)
		}
		amounts[key] += l.Amount
	}
	for i, l := range merged {
		merged[i].Amount = amounts[fmt.Sprint(l.Borrower, l.Guards)]
		if merged[i].Amount > impl.MaxLoan {
			return nil, false
		}
	}
	return merged, true
}

func TestMergeLoans(t *testing.T) {
	half := impl.MaxLoan / 2
	apart := []impl.Loan{debt(0, 10, 1), debt(0, 5, 2), debt(0, 5, 1, 2), debt(0, 5, 2, 1), debt(2, 5, 1), debt(1, 5, 2)}
	cases := []struct {
		list []impl.Loan
		want []impl.Loan
		ok   bool
	}{
		{nil, nil, true},
		{[]impl.Loan{debt(0, 10, 1)}, []impl.Loan{debt(0, 10, 1)}, true},
		{[]impl.Loan{debt(0, 10, 1), debt(0, 5, 2), debt(0, 5, 1)}, []impl.Loan{debt(0, 15, 1), debt(0, 5, 2)}, true},
		{[]impl.Loan{debt(0, 5, 2), debt(0, 10, 1), debt(0, 5, 1)}, []impl.Loan{debt(0, 5, 2), debt(0, 15, 1)}, true},
		{[]impl.Loan{debt(0, 1, 1), debt(0, 2, 1), debt(0, 3, 1)}, []impl.Loan{debt(0, 6, 1)}, true},
		{apart, apart, true},
		{append(apart, reversed(apart)...), []impl.Loan{debt(0, 20, 1), debt(0, 10, 2), debt(0, 10, 1, 2), debt(0, 10, 2, 1), debt(2, 10, 1), debt(1, 10, 2)}, true},
		{[]impl.Loan{debt(0, 3, 1, 2), debt(0, 4, 1)}, []impl.Loan{debt(0, 3, 1, 2), debt(0, 4, 1)}, true},
		{[]impl.Loan{debt(0, 4, 1), debt(0, 3, 1, 2)}, []impl.Loan{debt(0, 4, 1), debt(0, 3, 1, 2)}, true},
		{times(2, debt(1, half, 0, 2)), []impl.Loan{debt(1, impl.MaxLoan, 0, 2)}, true},
		{[]impl.Loan{debt(1, half, 0), debt(1, half, 0), debt(1, 1, 0)}, nil, false},
		{[]impl.Loan{debt(1, half, 0), debt(1, half+1, 0)}, nil, false},
		{[]impl.Loan{debt(1, half, 0), debt(1, half+1, 0, 2), debt(1, half+1, 2, 0)}, []impl.Loan{debt(1, half, 0), debt(1, half+1, 0, 2), debt(1, half+1, 2, 0)}, true},
		{[]impl.Loan{debt(0, 1, 1), debt(1, half, 0), debt(2, 7, 1), debt(1, half+1, 0), debt(0, 1, 1)}, nil, false},
		{[]impl.Loan{debt(1, impl.MaxLoan, 0), debt(0, impl.MaxLoan, 1)}, []impl.Loan{debt(1, impl.MaxLoan, 0), debt(0, impl.MaxLoan, 1)}, true},
		{times(impl.MaxLoans, debt(2, 6250, 1)), []impl.Loan{debt(2, impl.MaxLoan, 1)}, true},
		{times(impl.MaxLoans, debt(2, 6251, 1)), nil, false},
		{times(impl.MaxLoans, debt(2, impl.MaxLoan, 1)), nil, false},
	}
	for _, c := range cases {
		if got, ok := impl.MergeLoans(c.list, 3); !equalDebts(got, c.want) || ok != c.ok {
			t.Errorf("MergeLoans(%v, 3) = %v, %v, not %v, %v", c.list, got, ok, c.want, c.ok)
		}
	}
}

func TestMergeLoansIsByKeys(t *testing.T) {
	tooGreat := 0
	eachAlikes(func(list []impl.Loan, members int) {
		want, wantOk := mergedByKeys(list)
		if got, ok := impl.MergeLoans(list, members); !equalDebts(got, want) || ok != wantOk {
			t.Errorf("MergeLoans(%v, %d) = %v, %v, not %v, %v", list, members, got, ok, want, wantOk)
		}
		if !wantOk {
			tooGreat++
		}
	})
	if tooGreat < 100 {
		t.Errorf("only %d are too great", tooGreat)
	}
}

func TestP90MergedLoansAreTheSameDebts(t *testing.T) {
	found := 0
	eachAlikes(func(list []impl.Loan, members int) {
		merged, ok := impl.MergeLoans(list, members)
		if !ok {
			return
		}
		if len(merged) < len(list) {
			found++
		}
		again, okAgain := impl.MergeLoans(merged, members)
		if !equal(impl.OwedBy(merged, members), impl.OwedBy(list, members)) || !okAgain || !equalDebts(again, merged) {
			t.Errorf("MergeLoans(%v, %d) = %v, and again %v, %v", list, members, merged, again, okAgain)
		}
		for i, l := range merged {
			for _, other := range merged[:i] {
				if l.Borrower == other.Borrower && equal(l.Guards, other.Guards) {
					t.Errorf("MergeLoans(%v, %d) = %v", list, members, merged)
				}
			}
		}
	})
	if found < 500 {
		t.Errorf("only %d have loans that are alike", found)
	}
}

// someDays returns numbers of days: few, around an amount, and so many that products of them are not told.
func someDays(amount int) []int {
	days := []int{0, 1, 2, 3, 30, 364, impl.MaxDay, impl.MaxDay + 1, impl.MaxLoan, impl.MaxLoan + 1, 1 << 31, 1 << 32, 1 << 60, 1 << 61, 1 << 62, maxInt - 1, maxInt, maxInt/3 + 1, maxInt / 1000}
	for more := -2; more <= 2; more++ {
		if amount+more >= 0 {
			days = append(days, amount+more, amount/3+max(more, 0))
		}
	}
	return days
}

// someLate returns amounts that are late, with both ends.
func someLate() []int {
	return []int{0, 1, 2, 3, 4, 5, 7, 8, 9, 10, 16, 99, 100, 101, 1000, 1024, 1205, 4096, 65536, 77777, impl.MaxLoan - 1, impl.MaxLoan}
}

// eachFine calls check for amounts that are late, rates and days.
func eachFine(check func(amount int, r impl.Rate, days int)) {
	for _, amount := range someLate() {
		for _, r := range someRates() {
			for _, days := range someDays(amount) {
				check(amount, r, days)
			}
		}
	}
}

func TestLateFine(t *testing.T) {
	hundredth := rate(1, 100)
	cases := []struct {
		amount int
		r      impl.Rate
		days   int
		want   int
	}{
		{1000, hundredth, 0, 0},
		{1000, hundredth, 1, 10},
		{1000, hundredth, 3, 30},
		{1000, hundredth, 99, 990},
		{1000, hundredth, 100, 1000},
		{1000, hundredth, 101, 1000},
		{1000, hundredth, 200, 1000},
		{1000, hundredth, maxInt, 1000},
		{1001, hundredth, 91, 1001},
		{1001, hundredth, 90, 990},
		{1001, hundredth, 92, 1001},
		{5, hundredth, 2, 2},
		{5, hundredth, 5, 5},
		{5, hundredth, 6, 5},
		{0, hundredth, 9, 0},
		{0, rate(1, 1), maxInt, 0},
		{9, rate(0, 1), 9, 0},
		{9, rate(0, 7), maxInt, 0},
		{9, rate(1, 1), 0, 0},
		{9, rate(1, 1), 1, 9},
		{9, rate(1, 1), 2, 9},
		{9, rate(1, 1), -1, -1},
		{4, rate(1, 1), 1 << 62, 4},
		{4, rate(1, 2), 1 << 62, 4},
		{8, rate(1, 1), 1 << 61, 8},
		{3, rate(2, 3), maxInt, 3},
		{3, rate(2, 3), maxInt/2 + 2, 3},
		{impl.MaxLoan, rate(1, impl.MaxDen), 1, 100},
		{impl.MaxLoan, rate(1, impl.MaxDen), 999, 99900},
		{impl.MaxLoan, rate(1, impl.MaxDen), 1000, impl.MaxLoan},
		{impl.MaxLoan, rate(1, impl.MaxDen), maxInt, impl.MaxLoan},
		{impl.MaxLoan, rate(1, 1), maxInt, impl.MaxLoan},
		{1, rate(1, impl.MaxDen), 1, 1},
		{1, rate(1, impl.MaxDen), 0, 0},
		{1, rate(1, impl.MaxDen), maxInt, 1},
	}
	for _, c := range cases {
		if got := impl.LateFine(c.amount, c.r, c.days); got != c.want {
			t.Errorf("LateFine(%d, %v, %d) = %d, not %d", c.amount, c.r, c.days, got, c.want)
		}
	}
}

func TestLateFineOfOtherArguments(t *testing.T) {
	check := func(amount int, r impl.Rate, days int) {
		if got := impl.LateFine(amount, r, days); got != -1 {
			t.Errorf("LateFine(%d, %v, %d) = %d", amount, r, days, got)
		}
	}
	for _, days := range []int{0, 1, 100, maxInt} {
		for _, r := range someRates() {
			for _, amount := range append(badAmounts(), impl.MaxLoan+1, 2*impl.MaxLoan, impl.MaxAmount) {
				check(amount, r, days)
			}
		}
		for _, r := range badRates() {
			for _, amount := range someLate() {
				check(amount, r, days)
			}
		}
	}
	for _, days := range []int{-1, -2, -100, -impl.MaxLoan, minInt, minInt + 1, -1 << 62} {
		for _, amount := range someLate() {
			for _, r := range someRates() {
				check(amount, r, days)
			}
		}
	}
}

func TestLateFineIsDayByDay(t *testing.T) {
	eachFine(func(amount int, r impl.Rate, days int) {
		want := 0
		for day := 0; day < days && day < amount; day++ {
			want = min(want+impl.RoundUp(amount, r), amount)
		}
		if got := impl.LateFine(amount, r, days); got != want {
			t.Errorf("LateFine(%d, %v, %d) = %d, not %d", amount, r, days, got, want)
		}
	})
}

func TestP92FinesStopAtTheAmount(t *testing.T) {
	eachFine(func(amount int, r impl.Rate, days int) {
		fine := impl.LateFine(amount, r, days)
		if fine < 0 || fine > amount || days == 1 && fine != impl.RoundUp(amount, r) {
			t.Errorf("LateFine(%d, %v, %d) = %d", amount, r, days, fine)
		}
		if days > 0 && impl.LateFine(amount, r, days-1) > fine {
			t.Errorf("LateFine(%d, %v, %d) = %d, and a day before %d", amount, r, days, fine, impl.LateFine(amount, r, days-1))
		}
	})
}
