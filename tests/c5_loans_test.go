package tests

import (
	"testing"

	"loop.example/savingsclub/impl"
)

// debt returns a loan.
func debt(borrower int, amount int, guards ...int) impl.Loan {
	return impl.Loan{Borrower: borrower, Amount: amount, Guards: guards}
}

// equalDebts reports whether two lists have the same loans.
func equalDebts(a []impl.Loan, b []impl.Loan) bool {
	if len(a) != len(b) {
		return false
	}
	for i, l := range a {
		if l.Borrower != b[i].Borrower || l.Amount != b[i].Amount || !equal(l.Guards, b[i].Guards) {
			return false
		}
	}
	return true
}

// allDebts returns all loans of members members with these amounts.
func allDebts(members int, amounts ...int) []impl.Loan {
	var list []impl.Loan
	for borrower := 0; borrower < members; borrower++ {
		for _, set := range subsets(members) {
			if len(set) == 0 || contains(set, borrower) {
				continue
			}
			for _, order := range permutations(len(set)) {
				for _, amount := range amounts {
					list = append(list, debt(borrower, amount, pick(set, order)...))
				}
			}
		}
	}
	return list
}

// pick returns the numbers of a list that have indices, in the order of these.
func pick(list []int, indices []int) []int {
	var picked []int
	for _, i := range indices {
		picked = append(picked, list[i])
	}
	return picked
}

// othersThan returns all members but one.
func othersThan(members int, member int) []int {
	return without(upTo(members), member)
}

// rolledAmount returns an amount: one that the guards have few units of each, one in between, or nearly the greatest one.
func rolledAmount(roll func(count int) int) int {
	switch roll(4) {
	case 0:
		return 1 + roll(15)
	case 1:
		return 1 + roll(300)
	case 2:
		return 1 + roll(9999)
	}
	return impl.MaxLoan - roll(12)
}

// rolledDebts returns valid loans of two members or more.
func rolledDebts(members int, roll func(count int) int) []impl.Loan {
	var list []impl.Loan
	for count := roll(impl.MaxLoans + 1); count > 0; count-- {
		borrower := roll(members)
		order := mixed(members-1, roll(50))
		guards := pick(othersThan(members, borrower), order[:1+roll(1+roll(members-1))])
		list = append(list, debt(borrower, rolledAmount(roll), guards...))
	}
	return list
}

// upwards returns loans of members each of whom has one guard, the next member, the last one none.
func upwards(members int, amount int) []impl.Loan {
	var list []impl.Loan
	for member := 0; member+1 < members; member++ {
		list = append(list, debt(member, amount, member+1))
	}
	return list
}

// ringOf returns loans of members each of whom has one guard, the next member, the last one the first one.
func ringOf(members int, amount int) []impl.Loan {
	return append(upwards(members, amount), debt(members-1, amount, 0))
}

// eachDebts calls check for valid loans: all of few members with few loans, and some of more.
func eachDebts(check func(list []impl.Loan, members int)) {
	for members := 1; members <= impl.MaxMembers; members++ {
		check(nil, members)
	}
	for count := 1; count <= 3; count++ {
		for _, list := range allLists(count, allDebts(2, 1, 5, impl.MaxLoan)) {
			check(list, 2)
		}
		for _, list := range allLists(count, allDebts(3, 1)) {
			check(list, 3)
		}
	}
	for _, list := range allLists(2, allDebts(3, 2, 7)) {
		check(list, 3)
	}
	for _, l := range allDebts(4, 1, 2, 3, 4, 10) {
		check([]impl.Loan{l}, 4)
	}
	for members := 2; members <= impl.MaxMembers; members++ {
		check(upwards(members, 10), members)
		check(reversed(upwards(members, 10)), members)
		check(ringOf(members, 10), members)
		check(times(impl.MaxLoans, debt(0, impl.MaxLoan, othersThan(members, 0)...)), members)
		check(times(impl.MaxLoans, debt(members-1, 1, reversed(upTo(members-1))...)), members)
		for by := 0; by < 60; by++ {
			check(rolledDebts(members, dice(100*by+members)), members)
		}
	}
}

// manyMembers is a number of members for which some of badDebts are not valid in other ways.
const manyMembers = 5

// badDebts returns single loans that are not valid for manyMembers members.
func badDebts() []impl.Loan {
	list := []impl.Loan{
		{}, debt(0, 0, 1), debt(0, -1, 1), debt(0, minInt, 1), debt(0, impl.MaxLoan+1, 1), debt(0, 2*impl.MaxLoan, 1), debt(0, maxInt, 1),
		debt(0, 10), debt(4, 10, []int{}...), debt(0, 10, 0), debt(4, 10, 4), debt(2, 10, 1, 2), debt(2, 10, 2, 1), debt(2, 10, 0, 1, 2, 3, 4),
		debt(0, 10, 1, 1), debt(0, 10, 4, 1, 4), debt(0, 10, 1, 2, 3, 4, 1), debt(0, 10, 1, 2, 3, 4, 5), debt(4, 10, times(1000, 0)...), debt(0, 10, upTo(1000)[1:]...),
	}
	for _, bad := range []int{-1, minInt, manyMembers, manyMembers + 1, impl.MaxMembers, 63, 64, 65, 128, maxInt} {
		list = append(list, debt(bad, 10, 1), debt(bad, 10, 0, 1, 2, 3, 4), debt(0, 10, bad), debt(0, 10, bad, 1), debt(0, 10, 1, bad), debt(0, 10, 1, 2, 3, 4, bad))
	}
	return list
}

// eachBadDebts calls check for loans that are not valid for members members.
func eachBadDebts(check func(list []impl.Loan, members int)) {
	for _, bad := range badDebts() {
		check([]impl.Loan{bad}, manyMembers)
		check([]impl.Loan{bad, debt(0, 10, 1)}, manyMembers)
		check([]impl.Loan{debt(0, 10, 1), bad}, manyMembers)
		check(append(times(impl.MaxLoans-1, debt(0, 10, 1)), bad), manyMembers)
	}
	check([]impl.Loan{debt(0, 10, 1)}, 1)
	check([]impl.Loan{debt(1, 10, 0)}, 1)
	check([]impl.Loan{debt(0, 10, impl.MaxMembers)}, impl.MaxMembers)
	check([]impl.Loan{debt(impl.MaxMembers, 10, 0)}, impl.MaxMembers)
	check([]impl.Loan{debt(0, 10, impl.MaxMembers)}, impl.MaxMembers+1)
	for _, count := range []int{impl.MaxLoans + 1, 2 * impl.MaxLoans, 1000} {
		check(times(count, debt(0, 1, 1)), manyMembers)
		check(times(count, debt(0, 1, 1)), impl.MaxMembers)
	}
	for _, members := range badMembers() {
		check(nil, members)
		check([]impl.Loan{debt(0, 10, 1)}, members)
		check(ringOf(3, 10), members)
	}
}

// halvesOf returns the first half of a list and the others.
func halvesOf[T any](list []T) ([]T, []T) {
	middle := len(list) / 2
	return list[:middle], list[middle:]
}

// amountsOf returns the sum of all amounts of loans.
func amountsOf(list []impl.Loan) int {
	sum := 0
	for _, l := range list {
		sum += l.Amount
	}
	return sum
}

// added returns the sums of the numbers of two lists that are equally long.
func added(a []int, b []int) []int {
	var sums []int
	for i := range a {
		sums = append(sums, a[i]+b[i])
	}
	return sums
}

func TestValidLoans(t *testing.T) {
	eachDebts(func(list []impl.Loan, members int) {
		if !impl.ValidLoans(list, members) {
			t.Errorf("ValidLoans(%v, %d) is false", list, members)
		}
	})
	for _, l := range []impl.Loan{
		debt(0, 1, 1), debt(0, impl.MaxLoan, 1), debt(11, 1, 10), debt(11, impl.MaxLoan, upTo(11)...), debt(5, 3, othersThan(impl.MaxMembers, 5)...), debt(0, 1, 11),
	} {
		if !impl.ValidLoans([]impl.Loan{l}, impl.MaxMembers) || !impl.ValidLoans(times(impl.MaxLoans, l), impl.MaxMembers) {
			t.Errorf("%v is not valid", l)
		}
		if impl.ValidLoans(times(impl.MaxLoans+1, l), impl.MaxMembers) || impl.ValidLoans([]impl.Loan{l}, impl.MaxMembers+1) {
			t.Errorf("%v is valid too often, or for too many members", l)
		}
	}
}

func TestLoansNeedTheirMembers(t *testing.T) {
	for members := 2; members <= impl.MaxMembers; members++ {
		for _, l := range []impl.Loan{debt(0, 10, members-1), debt(members-1, 10, 0), debt(0, 10, reversed(othersThan(members, 0))...)} {
			if !impl.ValidLoans([]impl.Loan{l}, members) || impl.ValidLoans([]impl.Loan{l}, members-1) {
				t.Errorf("%v for %d members", l, members)
			}
		}
	}
}

// checkNoDebts fails if a function of loans is told for loans that are not valid.
func checkNoDebts(t *testing.T, list []impl.Loan, members int) {
	t.Helper()
	if impl.ValidLoans(list, members) || impl.HasRing(list, members) {
		t.Errorf("%v is valid for %d members, or has a ring", list, members)
	}
	if merged, ok := impl.MergeLoans(list, members); ok || len(merged) != 0 {
		t.Errorf("MergeLoans(%v, %d) = %v, %v", list, members, merged, ok)
	}
	if len(impl.OwedBy(list, members))+len(impl.ExposureOf(list, members))+len(impl.LevelsOf(list, members)) != 0 {
		t.Errorf("%v for %d members are told", list, members)
	}
	for i := -1; i <= len(list) && i < 3; i++ {
		for _, amount := range []int{0, 1, 10} {
			if got := impl.PayLoan(list, members, i, amount); len(got) != 0 {
				t.Errorf("PayLoan(%v, %d, %d, %d) = %v", list, members, i, amount, got)
			}
		}
	}
}

func TestLoansThatAreNotValid(t *testing.T) {
	eachBadDebts(func(list []impl.Loan, members int) {
		checkNoDebts(t, list, members)
	})
}

func TestP78LoansCanBePaid(t *testing.T) {
	eachDebts(func(list []impl.Loan, members int) {
		for i := range list {
			if !impl.ValidLoans(without(list, i), members) {
				t.Errorf("%v is not valid for %d members without loan %d", list, members, i)
			}
		}
	})
}

func TestOwedByAndExposureOf(t *testing.T) {
	all := times(impl.MaxLoans, debt(0, impl.MaxLoan, upTo(impl.MaxMembers)[1:]...))
	cases := []struct {
		list     []impl.Loan
		members  int
		owed     []int
		exposure []int
	}{
		{nil, 1, []int{0}, []int{0}},
		{nil, impl.MaxMembers, times(impl.MaxMembers, 0), times(impl.MaxMembers, 0)},
		{[]impl.Loan{debt(0, 1, 1)}, 2, []int{1, 0}, []int{0, 1}},
		{[]impl.Loan{debt(1, impl.MaxLoan, 0)}, 2, []int{0, impl.MaxLoan}, []int{impl.MaxLoan, 0}},
		{[]impl.Loan{debt(0, 100, 1, 2), debt(1, 50, 2)}, 3, []int{100, 50, 0}, []int{0, 50, 100}},
		{[]impl.Loan{debt(0, 7, 1, 2)}, 3, []int{7, 0, 0}, []int{0, 4, 3}},
		{[]impl.Loan{debt(0, 7, 2, 1)}, 3, []int{7, 0, 0}, []int{0, 3, 4}},
		{[]impl.Loan{debt(0, 1, 2, 1)}, 3, []int{1, 0, 0}, []int{0, 0, 1}},
		{[]impl.Loan{debt(3, 2, 2, 0, 1)}, 4, []int{0, 0, 0, 2}, []int{1, 0, 1, 0}},
		{[]impl.Loan{debt(3, 5, 2, 0, 1)}, 4, []int{0, 0, 0, 5}, []int{2, 1, 2, 0}},
		{[]impl.Loan{debt(0, 3, 1), debt(0, 4, 1), debt(0, 5, 2)}, 3, []int{12, 0, 0}, []int{0, 7, 5}},
		{[]impl.Loan{debt(0, 3, 1, 2), debt(0, 3, 1, 2)}, 3, []int{6, 0, 0}, []int{0, 4, 2}},
		{[]impl.Loan{debt(0, 3, 1), debt(1, 4, 0)}, 2, []int{3, 4}, []int{4, 3}},
		{[]impl.Loan{debt(0, 10, 11)}, impl.MaxMembers, append([]int{10}, times(11, 0)...), append(times(11, 0), 10)},
		{all, impl.MaxMembers, append([]int{1600000}, times(11, 0)...), append([]int{0}, append(times(10, 145456), 145440)...)},
		{times(impl.MaxLoans, debt(1, impl.MaxLoan, 0)), 2, []int{0, 1600000}, []int{1600000, 0}},
	}
	for _, c := range cases {
		if got := impl.OwedBy(c.list, c.members); !equal(got, c.owed) {
			t.Errorf("OwedBy(%v, %d) = %v, not %v", c.list, c.members, got, c.owed)
		}
		if got := impl.ExposureOf(c.list, c.members); !equal(got, c.exposure) {
			t.Errorf("ExposureOf(%v, %d) = %v, not %v", c.list, c.members, got, c.exposure)
		}
	}
}

func TestOwedByAndExposureOfAreSums(t *testing.T) {
	eachDebts(func(list []impl.Loan, members int) {
		owed := times(members, 0)
		exposure := times(members, 0)
		for _, l := range list {
			owed[l.Borrower] += l.Amount
			for i, guard := range l.Guards {
				// When units go round among the guards, this one gets those with the numbers i, i and a round more, and so on.
				exposure[guard] += (l.Amount - i + len(l.Guards) - 1) / len(l.Guards)
			}
		}
		if got := impl.OwedBy(list, members); !equal(got, owed) {
			t.Errorf("OwedBy(%v, %d) = %v, not %v", list, members, got, owed)
		}
		if got := impl.ExposureOf(list, members); !equal(got, exposure) {
			t.Errorf("ExposureOf(%v, %d) = %v, not %v", list, members, got, exposure)
		}
	})
}

func TestP79AllLoansAreOwed(t *testing.T) {
	eachDebts(func(list []impl.Loan, members int) {
		owed := impl.OwedBy(list, members)
		exposure := impl.ExposureOf(list, members)
		if len(owed) != members || len(exposure) != members || sumOf(owed) != amountsOf(list) || sumOf(exposure) != amountsOf(list) {
			t.Errorf("OwedBy(%v, %d) = %v, and ExposureOf %v", list, members, owed, exposure)
		}
	})
}

func TestP80ExposuresAddUp(t *testing.T) {
	eachDebts(func(list []impl.Loan, members int) {
		first, others := halvesOf(list)
		want := added(impl.ExposureOf(first, members), impl.ExposureOf(others, members))
		if got := impl.ExposureOf(list, members); len(want) != members || !equal(got, want) {
			t.Errorf("ExposureOf(%v, %d) = %v, not %v", list, members, got, want)
		}
	})
}
