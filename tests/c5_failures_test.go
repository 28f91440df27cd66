package tests

import (
	"testing"

	"loop.example/savingsclub/impl"
)

// fewUnits is the greatest amount of loans that fail unit by unit in these tests.
const fewUnits = 400

// failedByUnits returns stakes, the loss, and the guards who could not bear their parts, when each unit of a loan goes to the borrower, as long as it has some, and then to the guards by turns.
func failedByUnits(stakes []int, l impl.Loan) ([]int, int, []int) {
	left := append([]int{}, stakes...)
	loss := 0
	turn := 0
	lacking := make([]int, len(stakes))
	for unit := 0; unit < l.Amount; unit++ {
		if left[l.Borrower] > 0 {
			left[l.Borrower]--
			continue
		}
		guard := l.Guards[turn%len(l.Guards)]
		turn++
		if left[guard] > 0 {
			left[guard]--
		} else {
			loss++
			lacking[guard]++
		}
	}
	var short []int
	for _, guard := range l.Guards {
		if lacking[guard] > 0 {
			short = append(short, guard)
		}
	}
	return left, loss, short
}

// nextToFail returns the index of the first loan, of those that are not done, of the first member who failed and has one; -1 if there is none.
func nextToFail(list []impl.Loan, failed []int, done []int) int {
	for _, member := range failed {
		for i, l := range list {
			if l.Borrower == member && !contains(done, i) {
				return i
			}
		}
	}
	return -1
}

// cascadeByUnits returns stakes, the loss and the members who fail, when loan after loan fails unit by unit.
func cascadeByUnits(stakes []int, list []impl.Loan, first int) ([]int, int, []int) {
	left := stakes
	loss := 0
	failed := []int{first}
	var done []int
	for i := nextToFail(list, failed, done); i >= 0; i = nextToFail(list, failed, done) {
		after, lost, short := failedByUnits(left, list[i])
		left = after
		loss += lost
		for _, guard := range short {
			if !contains(failed, guard) {
				failed = append(failed, guard)
			}
		}
		done = append(done, i)
	}
	return left, loss, failed
}

// greatestAmount returns the greatest amount of loans, 0 without loans.
func greatestAmount(list []impl.Loan) int {
	greatest := 0
	for _, l := range list {
		greatest = max(greatest, l.Amount)
	}
	return greatest
}

// tightLoans returns loans that few stakes are enough for.
func tightLoans(members int, roll func(count int) int) []impl.Loan {
	list := rolledDebts(members, roll)
	for i := range list {
		list[i].Amount = 1 + roll(30)
	}
	return list
}

// eachFailing calls check for stakes and loans that are valid for them, with many that are nearly enough.
func eachFailing(check func(stakes []int, list []impl.Loan)) {
	eachBacked(check)
	for members := 2; members <= impl.MaxMembers; members++ {
		for by := 0; by < 300; by++ {
			roll := dice(1000*by + members)
			list := tightLoans(members, roll)
			var stakes []int
			for member := 0; member < members; member++ {
				stakes = append(stakes, roll(25)*roll(3))
			}
			check(stakes, list)
		}
	}
}

func TestFailLoan(t *testing.T) {
	two := []impl.Loan{debt(0, 100, 1, 2), debt(1, 50, 2)}
	odd := []impl.Loan{debt(0, 8, 3, 1, 2)}
	cases := []struct {
		stakes []int
		list   []impl.Loan
		i      int
		left   []int
		loss   int
	}{
		{[]int{0, 80, 120}, two, 0, []int{0, 30, 70}, 0},
		{[]int{0, 80, 120}, two, 1, []int{0, 30, 120}, 0},
		{[]int{0, 49, 120}, two, 1, []int{0, 0, 119}, 0},
		{[]int{0, 49, 0}, two, 1, []int{0, 0, 0}, 1},
		{[]int{30, 10, 120}, two, 0, []int{0, 0, 85}, 25},
		{[]int{99, 10, 120}, two, 0, []int{0, 9, 120}, 0},
		{[]int{100, 10, 120}, two, 0, []int{0, 10, 120}, 0},
		{[]int{101, 10, 120}, two, 0, []int{1, 10, 120}, 0},
		{[]int{impl.MaxLoan, 0, 0}, two, 0, []int{impl.MaxLoan - 100, 0, 0}, 0},
		{[]int{0, 50, 50}, two, 0, []int{0, 0, 0}, 0},
		{[]int{0, 49, 50}, two, 0, []int{0, 0, 0}, 1},
		{[]int{0, 50, 49}, two, 0, []int{0, 0, 0}, 1},
		{[]int{0, 51, 49}, two, 0, []int{0, 1, 0}, 1},
		{[]int{0, 0, 0}, two, 0, []int{0, 0, 0}, 100},
		{[]int{0, 0, 0}, two, 1, []int{0, 0, 0}, 50},
		{[]int{0, 3, 3, 3}, odd, 0, []int{0, 0, 1, 0}, 0},
		{[]int{0, 3, 2, 3}, odd, 0, []int{0, 0, 0, 0}, 0},
		{[]int{0, 3, 3, 2}, odd, 0, []int{0, 0, 1, 0}, 1},
		{[]int{0, 2, 3, 3}, odd, 0, []int{0, 0, 1, 0}, 1},
		{[]int{1, 3, 3, 3}, odd, 0, []int{0, 1, 1, 0}, 0},
		{[]int{6, 0, 0, 0}, odd, 0, []int{0, 0, 0, 0}, 2},
		{[]int{7, 0, 0, 1}, odd, 0, []int{0, 0, 0, 0}, 0},
		{[]int{7, 1, 1, 0}, odd, 0, []int{0, 1, 1, 0}, 1},
		{[]int{0, 0}, []impl.Loan{debt(1, impl.MaxLoan, 0)}, 0, []int{0, 0}, impl.MaxLoan},
		{[]int{impl.MaxLoan, 0}, []impl.Loan{debt(1, impl.MaxLoan, 0)}, 0, []int{0, 0}, 0},
		{[]int{impl.MaxLoan, 1}, []impl.Loan{debt(1, impl.MaxLoan, 0)}, 0, []int{1, 0}, 0},
		{[]int{5, 5}, []impl.Loan{debt(0, 1, 1), debt(0, 6, 1), debt(0, 7, 1)}, 1, []int{0, 4}, 0},
		{[]int{5, 5}, []impl.Loan{debt(0, 1, 1), debt(0, 6, 1), debt(0, 17, 1)}, 2, []int{0, 0}, 7},
		{append(times(11, 10), 0), times(impl.MaxLoans, debt(11, 111, upTo(11)...)), 15, times(impl.MaxMembers, 0), 1},
	}
	for _, c := range cases {
		if left, loss := impl.FailLoan(c.stakes, c.list, c.i); !equal(left, c.left) || loss != c.loss {
			t.Errorf("FailLoan(%v, %v, %d) = %v, %d, not %v, %d", c.stakes, c.list, c.i, left, loss, c.left, c.loss)
		}
	}
}

func TestFailLoanOfNoSuchLoan(t *testing.T) {
	eachBacked(func(stakes []int, list []impl.Loan) {
		for _, i := range []int{-1, -2, minInt, len(list), len(list) + 1, 64, maxInt} {
			if left, loss := impl.FailLoan(stakes, list, i); len(left) != 0 || loss != -1 {
				t.Errorf("FailLoan(%v, %v, %d) = %v, %d", stakes, list, i, left, loss)
			}
		}
	})
}

func TestFailLoanIsUnitByUnit(t *testing.T) {
	eachFailing(func(stakes []int, list []impl.Loan) {
		for i, l := range list {
			if l.Amount > fewUnits {
				continue
			}
			want, wantLoss, _ := failedByUnits(stakes, l)
			if left, loss := impl.FailLoan(stakes, list, i); !equal(left, want) || loss != wantLoss {
				t.Errorf("FailLoan(%v, %v, %d) = %v, %d, not %v, %d", stakes, list, i, left, loss, want, wantLoss)
			}
		}
	})
}

func TestP85AFailedLoanIsPaidOrLost(t *testing.T) {
	eachFailing(func(stakes []int, list []impl.Loan) {
		for i, l := range list {
			left, loss := impl.FailLoan(stakes, list, i)
			if len(left) != len(stakes) || loss < 0 || sumOf(stakes)-sumOf(left)+loss != l.Amount {
				t.Errorf("FailLoan(%v, %v, %d) = %v, %d", stakes, list, i, left, loss)
				continue
			}
			for member, stake := range left {
				pays := member == l.Borrower || contains(l.Guards, member)
				if stake < 0 || stake > stakes[member] || stake < stakes[member] && !pays {
					t.Errorf("FailLoan(%v, %v, %d) = %v, %d", stakes, list, i, left, loss)
				}
			}
		}
	})
}

func TestCascade(t *testing.T) {
	two := []impl.Loan{debt(0, 100, 1, 2), debt(1, 50, 2)}
	// All loans of 0 fail before that of 2, who is the first one to fail for 0, and that of 1; then 3 fails for 2, and 4 for 1.
	wide := []impl.Loan{debt(1, 7, 4), debt(0, 10, 2), debt(2, 5, 3), debt(0, 4, 1, 2), debt(0, 9, 1)}
	ring := ringOf(3, 10)
	cases := []struct {
		stakes []int
		list   []impl.Loan
		first  int
		left   []int
		loss   int
		failed []int
	}{
		{[]int{0}, nil, 0, []int{0}, 0, []int{0}},
		{[]int{5, 6, 7}, nil, 1, []int{5, 6, 7}, 0, []int{1}},
		{[]int{30, 10, 120}, two, 0, []int{0, 0, 35}, 25, []int{0, 1}},
		{[]int{30, 10, 120}, two, 1, []int{30, 0, 80}, 0, []int{1}},
		{[]int{30, 10, 120}, two, 2, []int{30, 10, 120}, 0, []int{2}},
		{[]int{0, 50, 50}, two, 0, []int{0, 0, 0}, 0, []int{0}},
		{[]int{0, 49, 50}, two, 0, []int{0, 0, 0}, 51, []int{0, 1, 2}},
		{[]int{0, 50, 49}, two, 0, []int{0, 0, 0}, 1, []int{0, 2}},
		{[]int{0, 49, 100}, two, 0, []int{0, 0, 0}, 1, []int{0, 1}},
		{[]int{0, 49, 99}, two, 0, []int{0, 0, 0}, 2, []int{0, 1, 2}},
		{[]int{0, 0, 0}, two, 0, []int{0, 0, 0}, 150, []int{0, 1, 2}},
		{[]int{100, 0, 0}, two, 0, []int{0, 0, 0}, 0, []int{0}},
		{[]int{99, 0, 0}, two, 0, []int{0, 0, 0}, 51, []int{0, 1, 2}},
		{[]int{98, 0, 0}, two, 0, []int{0, 0, 0}, 52, []int{0, 1, 2}},
		{[]int{98, 1, 0}, two, 0, []int{0, 0, 0}, 1, []int{0, 2}},
		{[]int{0, 0, 0, 0, 0}, wide, 0, []int{0, 0, 0, 0, 0}, 35, []int{0, 2, 1, 3, 4}},
		{[]int{0, 10, 10, 4, 6}, wide, 0, []int{0, 0, 0, 0, 0}, 5, []int{0, 2, 1, 3, 4}},
		{[]int{0, 10, 10, 5, 7}, wide, 0, []int{0, 0, 0, 0, 0}, 3, []int{0, 2, 1}},
		{[]int{0, 11, 12, 0, 0}, wide, 0, []int{0, 0, 0, 0, 0}, 0, []int{0}},
		{[]int{10, 2, 2, 0, 0}, wide, 0, []int{0, 0, 0, 0, 0}, 16, []int{0, 1, 4}},
		{[]int{0, 0, 0}, ring, 0, []int{0, 0, 0}, 30, []int{0, 1, 2}},
		{[]int{0, 0, 0}, ring, 2, []int{0, 0, 0}, 30, []int{2, 0, 1}},
		{[]int{9, 0, 9}, ring, 0, []int{0, 0, 0}, 12, []int{0, 1, 2}},
		{[]int{9, 1, 9}, ring, 0, []int{0, 0, 9}, 0, []int{0}},
		{[]int{15, 0, 0}, ring, 0, []int{5, 0, 0}, 0, []int{0}},
		{[]int{15, 0, 0}, ring, 1, []int{5, 0, 0}, 10, []int{1, 2}},
		{[]int{0, 3}, ringOf(2, 5), 0, []int{0, 0}, 7, []int{0, 1}},
		{[]int{0, 0, 0}, []impl.Loan{debt(0, 1, 1, 2)}, 0, []int{0, 0, 0}, 1, []int{0, 1}},
		{[]int{0, 0, 0}, []impl.Loan{debt(0, 2, 2, 1)}, 0, []int{0, 0, 0}, 2, []int{0, 2, 1}},
		{[]int{0, 5, 0}, []impl.Loan{debt(0, 5, 1), debt(0, 1, 1), debt(1, 9, 2), debt(0, 7, 1)}, 0, []int{0, 0, 0}, 17, []int{0, 1, 2}},
		{[]int{4, 3, 0}, []impl.Loan{debt(1, 3, 2), debt(0, 5, 1), debt(0, 2, 1)}, 0, []int{0, 0, 0}, 0, []int{0}},
		{[]int{4, 2, 0}, []impl.Loan{debt(1, 3, 2), debt(0, 5, 1), debt(0, 2, 1)}, 0, []int{0, 0, 0}, 4, []int{0, 1, 2}},
		{times(impl.MaxMembers, 9), upwards(impl.MaxMembers, 10), 0, append([]int{0, 8}, times(10, 9)...), 0, []int{0}},
		{times(impl.MaxMembers, 0), upwards(impl.MaxMembers, 10), 0, times(impl.MaxMembers, 0), 110, upTo(impl.MaxMembers)},
		{times(impl.MaxMembers, 0), reversed(upwards(impl.MaxMembers, 10)), 4, times(impl.MaxMembers, 0), 70, upTo(impl.MaxMembers)[4:]},
		{times(impl.MaxMembers, 0), ringOf(impl.MaxMembers, 10), 11, times(impl.MaxMembers, 0), 120, append([]int{11}, upTo(11)...)},
		{times(2, 0), times(impl.MaxLoans, debt(0, impl.MaxLoan, 1)), 0, times(2, 0), 1600000, []int{0, 1}},
		{times(2, impl.MaxLoan), times(impl.MaxLoans, debt(0, impl.MaxLoan, 1)), 0, times(2, 0), 1400000, []int{0, 1}},
		{times(2, impl.MaxLoan), times(2, debt(0, impl.MaxLoan, 1)), 0, times(2, 0), 0, []int{0}},
	}
	for _, c := range cases {
		if left, loss, failed := impl.Cascade(c.stakes, c.list, c.first); !equal(left, c.left) || loss != c.loss || !equal(failed, c.failed) {
			t.Errorf("Cascade(%v, %v, %d) = %v, %d, %v, not %v, %d, %v", c.stakes, c.list, c.first, left, loss, failed, c.left, c.loss, c.failed)
		}
	}
}

// Here one member stands behind loans of three others, so that who fails hangs on which loan fails first.
func TestCascadeGoesFromMemberToMember(t *testing.T) {
	list := []impl.Loan{debt(0, 4, 1), debt(1, 4, 3), debt(0, 4, 2), debt(2, 4, 3), debt(3, 4, 4), debt(0, 4, 3)}
	cases := []struct {
		stakes []int
		left   []int
		loss   int
		failed []int
	}{
		{[]int{0, 0, 0, 0, 0}, []int{0, 0, 0, 0, 0}, 24, []int{0, 1, 2, 3, 4}},
		{[]int{0, 0, 0, 4, 9}, []int{0, 0, 0, 0, 5}, 16, []int{0, 1, 2, 3}},
		{[]int{0, 4, 0, 4, 9}, []int{0, 0, 0, 0, 5}, 8, []int{0, 2, 3}},
		{[]int{0, 4, 4, 3, 9}, []int{0, 0, 0, 0, 5}, 1, []int{0, 3}},
		{[]int{0, 3, 4, 8, 3}, []int{0, 0, 0, 0, 3}, 1, []int{0, 1}},
		{[]int{0, 3, 3, 8, 3}, []int{0, 0, 0, 0, 0}, 7, []int{0, 1, 2, 3, 4}},
		{[]int{4, 4, 3, 5, 3}, []int{0, 4, 0, 0, 0}, 5, []int{0, 2, 3, 4}},
	}
	for _, c := range cases {
		if left, loss, failed := impl.Cascade(c.stakes, list, 0); !equal(left, c.left) || loss != c.loss || !equal(failed, c.failed) {
			t.Errorf("Cascade(%v, %v, 0) = %v, %d, %v, not %v, %d, %v", c.stakes, list, left, loss, failed, c.left, c.loss, c.failed)
		}
	}
}

func TestCascadeOfNoSuchMember(t *testing.T) {
	eachBacked(func(stakes []int, list []impl.Loan) {
		for _, first := range []int{-1, -2, minInt, len(stakes), len(stakes) + 1, 64, maxInt} {
			if left, loss, failed := impl.Cascade(stakes, list, first); len(left)+len(failed) != 0 || loss != -1 {
				t.Errorf("Cascade(%v, %v, %d) = %v, %d, %v", stakes, list, first, left, loss, failed)
			}
		}
	})
}

func TestCascadeIsUnitByUnit(t *testing.T) {
	many := 0
	eachFailing(func(stakes []int, list []impl.Loan) {
		if greatestAmount(list) > fewUnits {
			return
		}
		for first := range stakes {
			want, wantLoss, wantFailed := cascadeByUnits(stakes, list, first)
			if left, loss, failed := impl.Cascade(stakes, list, first); !equal(left, want) || loss != wantLoss || !equal(failed, wantFailed) {
				t.Errorf("Cascade(%v, %v, %d) = %v, %d, %v, not %v, %d, %v", stakes, list, first, left, loss, failed, want, wantLoss, wantFailed)
			}
			if len(wantFailed) > 3 {
				many++
			}
		}
	})
	if many < 1000 {
		t.Errorf("in only %d cascades many members fail", many)
	}
}

func TestP83MembersWithoutLoansFailAlone(t *testing.T) {
	found := 0
	eachFailing(func(stakes []int, list []impl.Loan) {
		for member, owed := range impl.OwedBy(list, len(stakes)) {
			if owed > 0 {
				continue
			}
			found++
			if left, loss, failed := impl.Cascade(stakes, list, member); !equal(left, stakes) || loss != 0 || !equal(failed, []int{member}) {
				t.Errorf("Cascade(%v, %v, %d) = %v, %d, %v", stakes, list, member, left, loss, failed)
			}
		}
	})
	if found < 1000 {
		t.Errorf("only %d members have no loan", found)
	}
}

// debtsOf returns the loans of some members.
func debtsOf(list []impl.Loan, members []int) []impl.Loan {
	var some []impl.Loan
	for _, l := range list {
		if contains(members, l.Borrower) {
			some = append(some, l)
		}
	}
	return some
}

func TestP86FailuresArePaidOrLost(t *testing.T) {
	eachFailing(func(stakes []int, list []impl.Loan) {
		for first := range stakes {
			left, loss, failed := impl.Cascade(stakes, list, first)
			if len(left) != len(stakes) || loss < 0 || sumOf(stakes)-sumOf(left)+loss != amountsOf(debtsOf(list, failed)) {
				t.Errorf("Cascade(%v, %v, %d) = %v, %d, %v", stakes, list, first, left, loss, failed)
				continue
			}
			for member, stake := range left {
				if stake < 0 || stake > stakes[member] {
					t.Errorf("Cascade(%v, %v, %d) = %v, %d, %v", stakes, list, first, left, loss, failed)
				}
			}
			if len(failed) == 0 || failed[0] != first || !areOnce(failed) || !isAmong(failed, upTo(len(stakes))) {
				t.Errorf("Cascade(%v, %v, %d) = %v, %d, %v", stakes, list, first, left, loss, failed)
			}
		}
	})
}

// areOnce reports whether no number is in a list twice.
func areOnce(list []int) bool {
	for i, n := range list {
		if contains(list[:i], n) {
			return false
		}
	}
	return true
}

// Who fails after the first one guards a loan of somebody who failed, and has nothing left.
func TestWhoFailsHasNothingLeft(t *testing.T) {
	eachFailing(func(stakes []int, list []impl.Loan) {
		for first := range stakes {
			left, _, failed := impl.Cascade(stakes, list, first)
			for i, member := range failed {
				if i > 0 && (left[member] != 0 || impl.ExposureOf(debtsOf(list, failed[:i]), len(stakes))[member] == 0) {
					t.Errorf("Cascade(%v, %v, %d) has %v, with %d", stakes, list, first, failed, member)
				}
			}
		}
	})
}
