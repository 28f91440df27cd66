package tests

import (
	"math/big"
	"testing"

	"loop.example/savingsclub/impl"
)

// somePeriods returns numbers of periods, both ends among them.
func somePeriods() []int {
	return []int{1, 2, 3, 7, 12, 59, impl.MaxPeriods}
}

// somePays returns payments for a loan: none, all of it, less, more, and the greatest one.
func somePays(n int) []int {
	list := []int{0, 1, n / 60, n / 12, n/12 + 1, n / 2, n, impl.MaxAmount}
	if n > 0 {
		list = append(list, n-1)
	}
	if n < impl.MaxAmount {
		list = append(list, n+1)
	}
	return list
}

// isTold reports whether OwedAfter tells what is owed, which is nothing only of a loan of 0.
func isTold(n int, owed []int) bool {
	return n == 0 || len(owed) > 0
}

// eachLoan calls check for loans of which OwedAfter tells what is owed.
func eachLoan(check func(n int, r impl.Rate, pay int, owed []int)) {
	for _, r := range someRates() {
		for _, n := range someAmounts() {
			for _, pay := range somePays(n) {
				owed := impl.OwedAfter(n, r, pay)
				if isTold(n, owed) {
					check(n, r, pay, owed)
				}
			}
		}
	}
}

func TestCompound(t *testing.T) {
	cases := []struct {
		n       int
		r       impl.Rate
		periods int
		want    int
	}{
		{1000, rate(5, 100), 2, 1102},
		{7, rate(1, 2), 0, 7},
		{impl.MaxAmount, rate(1, 1), 0, impl.MaxAmount},
		{1, rate(1, 2), 60, 1},
		{3, rate(1, 2), 1, 5},
		{5, rate(1, 2), 1, 7},
		{3, rate(1, 2), 3, 11},
		{0, rate(1, 1), 60, 0},
		{1, rate(1, 1), 19, 524288},
		{1, rate(1, 1), 20, -1},
		{1, rate(1, 1), 60, -1},
		{500000, rate(1, 1), 1, impl.MaxAmount},
		{500001, rate(1, 1), 1, -1},
		{999001, rate(1, 1000), 1, impl.MaxAmount},
		{999002, rate(1, 1000), 1, -1},
		{impl.MaxAmount, rate(0, 1), 60, impl.MaxAmount},
		{impl.MaxAmount, rate(1, 1000), 1, -1},
		{impl.MaxAmount, rate(1, 1), 60, -1},
		{1000, rate(1, 1), 10, -1},
		{100, rate(12, 1000), 1, 101},
	}
	for _, c := range cases {
		if got := impl.Compound(c.n, c.r, c.periods); got != c.want {
			t.Errorf("Compound(%d, %v, %d) = %d, not %d", c.n, c.r, c.periods, got, c.want)
		}
	}
}

func TestCompoundOfOtherArguments(t *testing.T) {
	for _, n := range badAmounts() {
		if impl.Compound(n, rate(0, 1), 0) != -1 || impl.Compound(n, rate(0, 1), 1) != -1 {
			t.Errorf("Compound of %d is told", n)
		}
	}
	for _, r := range badRates() {
		if impl.Compound(100, r, 0) != -1 || impl.Compound(0, r, 1) != -1 {
			t.Errorf("Compound with %v is told", r)
		}
	}
	for _, periods := range []int{-1, impl.MaxPeriods + 1, minInt, maxInt} {
		if impl.Compound(100, rate(0, 1), periods) != -1 || impl.Compound(0, rate(1, 2), periods) != -1 {
			t.Errorf("Compound of %d periods is told", periods)
		}
	}
}

func TestP6PeriodsFollowEachOther(t *testing.T) {
	for _, r := range someRates() {
		for _, n := range someAmounts() {
			for periods := 1; periods <= impl.MaxPeriods; periods++ {
				before := impl.Compound(n, r, periods-1)
				after := impl.Compound(n, r, periods)
				if before < 0 && after >= 0 {
					t.Errorf("Compound(%d, %v, %d) = %d after a greater amount", n, r, periods, after)
				}
				if after >= 0 && (after != impl.Compound(before, r, 1) || after != before+impl.RoundEven(before, r) || after < n) {
					t.Errorf("Compound(%d, %v, %d) = %d after %d", n, r, periods, after, before)
				}
			}
		}
	}
}

func TestP7MoreGrowsToMore(t *testing.T) {
	for _, r := range someRates() {
		for _, n := range someAmounts() {
			for _, periods := range somePeriods() {
				grown := impl.Compound(n, r, periods)
				if r.Num == 0 && grown != n {
					t.Errorf("Compound(%d, %v, %d) = %d", n, r, periods, grown)
				}
				if n == impl.MaxAmount {
					continue
				}
				more := impl.Compound(n+1, r, periods)
				if more >= 0 && (grown < 0 || more < grown) {
					t.Errorf("Compound(%d, %v, %d) = %d, and of 1 more %d", n, r, periods, grown, more)
				}
			}
		}
	}
}

// always returns a list with one number for all periods.
func always(n int) []int {
	var list []int
	for i := 0; i < impl.MaxPeriods; i++ {
		list = append(list, n)
	}
	return list
}

func TestOwedAfter(t *testing.T) {
	cases := []struct {
		n    int
		r    impl.Rate
		pay  int
		want []int
	}{
		{100, rate(10, 100), 60, []int{50, 0}},
		{100, rate(10, 100), 110, []int{0}},
		{100, rate(10, 100), 109, []int{1, 0}},
		{100, rate(10, 100), impl.MaxAmount, []int{0}},
		{5, rate(1, 2), 3, []int{4, 3, 2, 0}},
		{10, rate(0, 1), 4, []int{6, 2, 0}},
		{100, rate(10, 100), 10, always(100)},
		{0, rate(10, 100), 5, nil},
		{0, rate(1, 1), 0, nil},
		{500, rate(0, 1), 0, always(500)},
		{1, rate(1, 2), 0, always(1)},
		{impl.MaxAmount, rate(1, 1), impl.MaxAmount, always(impl.MaxAmount)},
		{impl.MaxAmount, rate(1, 1), impl.MaxAmount - 1, nil},
		{impl.MaxAmount, rate(1, 1), 0, nil},
		{impl.MaxAmount, rate(0, 1), 0, always(impl.MaxAmount)},
		{impl.MaxAmount, rate(0, 1), impl.MaxAmount, []int{0}},
		{1, rate(1, 1), 0, nil},
	}
	for _, c := range cases {
		if got := impl.OwedAfter(c.n, c.r, c.pay); !equal(got, c.want) {
			t.Errorf("OwedAfter(%d, %v, %d) = %v, not %v", c.n, c.r, c.pay, got, c.want)
		}
	}
}

func TestOwedAfterTheLastPeriods(t *testing.T) {
	paid := impl.OwedAfter(60, rate(0, 1), 1)
	if len(paid) != impl.MaxPeriods || paid[58] != 1 || paid[59] != 0 || impl.InterestOf(60, rate(0, 1), 1) != 0 {
		t.Errorf("OwedAfter = %v", paid)
	}
	unpaid := impl.OwedAfter(61, rate(0, 1), 1)
	if len(unpaid) != impl.MaxPeriods || unpaid[59] != 1 || impl.InterestOf(61, rate(0, 1), 1) != -1 {
		t.Errorf("OwedAfter = %v", unpaid)
	}
	// What is owed may grow without end, as long as it is an amount after each period.
	growing := impl.OwedAfter(100, rate(10, 100), 0)
	if len(growing) != impl.MaxPeriods || growing[59] != impl.Compound(100, rate(10, 100), 60) {
		t.Errorf("OwedAfter = %v", growing)
	}
}

func TestLoansOfOtherArguments(t *testing.T) {
	check := func(n int, r impl.Rate, pay int) {
		if len(impl.OwedAfter(n, r, pay)) != 0 || impl.InterestOf(n, r, pay) != -1 {
			t.Errorf("OwedAfter(%d, %v, %d) or InterestOf it is told", n, r, pay)
		}
	}
	for _, bad := range badAmounts() {
		check(bad, rate(1, 2), 10)
		check(bad, rate(0, 1), 0)
		check(10, rate(1, 2), bad)
		check(0, rate(0, 1), bad)
	}
	for _, r := range badRates() {
		check(10, r, 10)
		check(0, r, 0)
	}
}

func TestP8WhatIsOwedGrowsAndIsPaid(t *testing.T) {
	eachLoan(func(n int, r impl.Rate, pay int, owed []int) {
		before := n
		for i, after := range owed {
			want := max(0, before+impl.RoundEven(before, r)-pay)
			if after != want || after > impl.MaxAmount || (after == 0 && i < len(owed)-1) {
				t.Fatalf("OwedAfter(%d, %v, %d) = %v", n, r, pay, owed)
			}
			before = after
		}
		if before > 0 && len(owed) != impl.MaxPeriods || len(owed) > impl.MaxPeriods {
			t.Errorf("OwedAfter(%d, %v, %d) has %d periods", n, r, pay, len(owed))
		}
	})
}

func TestP9WhoPaysMoreOwesLess(t *testing.T) {
	eachLoan(func(n int, r impl.Rate, pay int, owed []int) {
		if pay == impl.MaxAmount {
			return
		}
		less := impl.OwedAfter(n, r, pay+1)
		if !isTold(n, less) || len(less) > len(owed) {
			t.Fatalf("OwedAfter(%d, %v, %d) = %v, and with 1 more %v", n, r, pay, owed, less)
		}
		for i := range less {
			if less[i] > owed[i] {
				t.Fatalf("OwedAfter(%d, %v, %d) = %v, and with 1 more %v", n, r, pay, owed, less)
			}
		}
	})
}

func TestLeastPay(t *testing.T) {
	cases := []struct {
		n       int
		r       impl.Rate
		periods int
		want    int
	}{
		{100, rate(10, 100), 1, 110},
		{100, rate(10, 100), 2, 58},
		{0, rate(10, 100), 2, 0},
		{0, rate(1, 1), 60, 0},
		{1, rate(0, 1), 60, 1},
		{60, rate(0, 1), 60, 1},
		{61, rate(0, 1), 60, 2},
		{10, rate(0, 1), 3, 4},
		{impl.MaxAmount, rate(0, 1), 60, 16667},
		{impl.MaxAmount, rate(1, 1), 1, 2 * impl.MaxAmount},
		{impl.MaxAmount, rate(1, 1), 2, 1333334},
		{impl.MaxAmount, rate(1, 1), 19, 1000002},
		{impl.MaxAmount, rate(1, 1), 20, 1000001},
		{impl.MaxAmount, rate(1, 1), 60, 1000001},
		{impl.MaxAmount, rate(1000, 1000), 60, 1000001},
		{1, rate(1, 2), 60, 1},
		{1, rate(1, 1), 60, 2},
	}
	for _, c := range cases {
		if got := impl.LeastPay(c.n, c.r, c.periods); got != c.want {
			t.Errorf("LeastPay(%d, %v, %d) = %d, not %d", c.n, c.r, c.periods, got, c.want)
		}
	}
}

func TestLeastPayOfOtherArguments(t *testing.T) {
	for _, n := range badAmounts() {
		if impl.LeastPay(n, rate(1, 2), 2) != -1 || impl.LeastPay(n, rate(0, 1), 60) != -1 {
			t.Errorf("LeastPay of %d is told", n)
		}
	}
	for _, r := range badRates() {
		if impl.LeastPay(100, r, 2) != -1 || impl.LeastPay(0, r, 1) != -1 {
			t.Errorf("LeastPay with %v is told", r)
		}
	}
	for _, periods := range []int{0, -1, impl.MaxPeriods + 1, minInt, maxInt} {
		if impl.LeastPay(100, rate(1, 2), periods) != -1 || impl.LeastPay(0, rate(0, 1), periods) != -1 {
			t.Errorf("LeastPay of %d periods is told", periods)
		}
	}
}

// isPaid reports whether a loan is paid back, with numbers that no limit holds.
func isPaid(n int, r impl.Rate, pay int, periods int) bool {
	owed := big.NewInt(int64(n))
	for i := 0; i < periods && owed.Sign() > 0; i++ {
		owed.Add(owed, bigEven(owed, r))
		owed.Sub(owed, big.NewInt(int64(pay)))
	}
	return owed.Sign() <= 0
}

// bigEven returns a part of a number, rounded to the nearest number, halves to the even one.
func bigEven(n *big.Int, r impl.Rate) *big.Int {
	product := new(big.Int).Mul(n, big.NewInt(int64(r.Num)))
	den := big.NewInt(int64(r.Den))
	down, rest := new(big.Int).QuoRem(product, den, new(big.Int))
	compared := rest.Lsh(rest, 1).Cmp(den)
	if compared > 0 || compared == 0 && down.Bit(0) == 1 {
		down.Add(down, big.NewInt(1))
	}
	return down
}

func TestLeastPayIsTheFirstThatPays(t *testing.T) {
	for _, r := range someRates() {
		for n := 0; n <= 25; n++ {
			for _, periods := range somePeriods() {
				want := 0
				for !isPaid(n, r, want, periods) {
					want++
				}
				if got := impl.LeastPay(n, r, periods); got != want {
					t.Errorf("LeastPay(%d, %v, %d) = %d, not %d", n, r, periods, got, want)
				}
			}
		}
	}
}

// isOwedStill reports whether something is owed after some periods, as OwedAfter tells.
func isOwedStill(n int, r impl.Rate, pay int, periods int) bool {
	owed := impl.OwedAfter(n, r, pay)
	if !isTold(n, owed) {
		return true
	}
	return len(owed) >= periods && owed[periods-1] > 0
}

func TestP10TheLeastPayIsEnough(t *testing.T) {
	for _, r := range someRates() {
		for _, n := range someAmounts() {
			for _, periods := range somePeriods() {
				pay := impl.LeastPay(n, r, periods)
				if pay < 0 || pay > 2*impl.MaxAmount || !isPaid(n, r, pay, periods) || pay > 0 && isPaid(n, r, pay-1, periods) {
					t.Errorf("LeastPay(%d, %v, %d) = %d", n, r, periods, pay)
				}
				if pay <= impl.MaxAmount && isOwedStill(n, r, pay, periods) {
					t.Errorf("LeastPay(%d, %v, %d) = %d is not enough", n, r, periods, pay)
				}
				if 0 < pay && pay <= impl.MaxAmount+1 && !isOwedStill(n, r, pay-1, periods) {
					t.Errorf("LeastPay(%d, %v, %d) = %d is not the least", n, r, periods, pay)
				}
			}
		}
	}
}

func TestP11OnePaymentPaysAll(t *testing.T) {
	for _, r := range someRates() {
		for _, n := range someAmounts() {
			last := impl.LeastPay(n, r, 1)
			if last != n+impl.RoundEven(n, r) {
				t.Errorf("LeastPay(%d, %v, 1) = %d", n, r, last)
			}
			for periods := 2; periods <= impl.MaxPeriods; periods++ {
				pay := impl.LeastPay(n, r, periods)
				if pay > last {
					t.Errorf("LeastPay(%d, %v, %d) = %d after %d", n, r, periods, pay, last)
				}
				last = pay
			}
		}
	}
}

func TestInterestOf(t *testing.T) {
	cases := []struct {
		n    int
		r    impl.Rate
		pay  int
		want int
	}{
		{100, rate(10, 100), 60, 15},
		{100, rate(10, 100), 110, 10},
		{100, rate(10, 100), impl.MaxAmount, 10},
		{100, rate(10, 100), 5, -1},
		{100, rate(10, 100), 10, -1},
		{5, rate(1, 2), 3, 7},
		{10, rate(0, 1), 4, 0},
		{0, rate(10, 100), 5, 0},
		{0, rate(1, 1), 0, 0},
		{10, rate(0, 1), 0, -1},
		{impl.MaxAmount, rate(1, 1), impl.MaxAmount, -1},
		{impl.MaxAmount, rate(1, 1), 0, -1},
		{impl.MaxAmount, rate(0, 1), impl.MaxAmount, 0},
		{500000, rate(1, 1), impl.MaxAmount, 500000},
	}
	for _, c := range cases {
		if got := impl.InterestOf(c.n, c.r, c.pay); got != c.want {
			t.Errorf("InterestOf(%d, %v, %d) = %d, not %d", c.n, c.r, c.pay, got, c.want)
		}
	}
}

// paymentsOf returns all that is paid for a loan with what is owed after each period, which is nothing at last.
func paymentsOf(n int, r impl.Rate, pay int, owed []int) int {
	if n == 0 {
		return 0
	}
	lastOwed := n
	if len(owed) > 1 {
		lastOwed = owed[len(owed)-2]
	}
	return (len(owed)-1)*pay + lastOwed + impl.RoundEven(lastOwed, r)
}

func TestP12InterestIsWhatIsPaidMore(t *testing.T) {
	for _, r := range someRates() {
		for _, n := range someAmounts() {
			for _, pay := range somePays(n) {
				owed := impl.OwedAfter(n, r, pay)
				want := -1
				if n == 0 || len(owed) > 0 && owed[len(owed)-1] == 0 {
					want = paymentsOf(n, r, pay, owed) - n
				}
				if got := impl.InterestOf(n, r, pay); got != want {
					t.Errorf("InterestOf(%d, %v, %d) = %d, not %d", n, r, pay, got, want)
				}
			}
		}
	}
}
