package tests

import (
	"testing"

	"loop.example/savingsclub/impl"
)

// roomyDebts returns loans of new memory, with room behind all their lists in which nobody may write.
func roomyDebts(list []impl.Loan) []impl.Loan {
	all := make([]impl.Loan, 0, len(list)+1)
	for _, l := range list {
		all = append(all, debt(l.Borrower, l.Amount, roomy(l.Guards...)...))
	}
	all = append(all, debt(-99, -99, -99))
	return all[:len(list)]
}

// areDebtsAsBefore reports whether loans made by roomyDebts are still the same, and the room behind their lists, too.
func areDebtsAsBefore(given []impl.Loan, list []impl.Loan) bool {
	for i, l := range given {
		if len(l.Guards) != len(list[i].Guards) || !isAsBefore(l.Guards, list[i].Guards...) {
			return false
		}
	}
	return equalDebts(given[:len(list)+1], append(append([]impl.Loan{}, list...), debt(-99, -99, -99)))
}

// spoilDebts writes into loans, into the Guards of each, and into the room behind them.
func spoilDebts(list []impl.Loan) {
	list = list[:cap(list)]
	for i := range list {
		spoil(list[i].Guards)
		list[i] = debt(-7, -7)
	}
}

// callAllOnDebts calls all functions of loans, and writes into their answers.
func callAllOnDebts(list []impl.Loan, members int) {
	impl.ValidLoans(list, members)
	impl.HasRing(list, members)
	spoil(impl.OwedBy(list, members))
	spoil(impl.ExposureOf(list, members))
	spoil(impl.LevelsOf(list, members))
	merged, _ := impl.MergeLoans(list, members)
	spoilDebts(merged)
	for i := -1; i <= len(list) && i < 3; i++ {
		spoilDebts(impl.PayLoan(list, members, i, 1))
		spoilDebts(impl.PayLoan(list, members, i, 10))
	}
}

// callAllOnStakes calls all functions of stakes and loans, and writes into their answers.
func callAllOnStakes(stakes []int, list []impl.Loan, l impl.Loan) {
	spoil(impl.FreeStakes(stakes, list))
	impl.SafeLoans(stakes, list)
	impl.MostLoan(stakes, list, l)
	spoil(impl.ByRisk(stakes, list))
	for i := -1; i <= len(list) && i < 3; i++ {
		left, _ := impl.FailLoan(stakes, list, i)
		spoil(left)
	}
	for first := -1; first <= len(stakes) && first < 15; first++ {
		left, _, failed := impl.Cascade(stakes, list, first)
		spoil(left)
		spoil(failed)
	}
}

func TestLoansAreAsBefore(t *testing.T) {
	check := func(before []impl.Loan, members int) {
		list := roomyDebts(before)
		callAllOnDebts(list, members)
		if !areDebtsAsBefore(list, before) {
			t.Errorf("%v became %v", before, list)
		}
	}
	eachDebts(check)
	eachBadDebts(check)
}

// checkBacking fails if a function of stakes and loans writes into them, or into one more loan.
func checkBacking(t *testing.T, before []int, loans []impl.Loan, more impl.Loan) {
	t.Helper()
	stakes := roomy(before...)
	list := roomyDebts(loans)
	one := roomyDebts([]impl.Loan{more})
	callAllOnStakes(stakes, list, one[0])
	if !isAsBefore(stakes, before...) || !areDebtsAsBefore(list, loans) || !areDebtsAsBefore(one, []impl.Loan{more}) {
		t.Errorf("%v, %v and %v became %v, %v and %v", before, loans, more, stakes, list, one)
	}
}

func TestStakesAndLoansAreAsBefore(t *testing.T) {
	eachBacked(func(stakes []int, list []impl.Loan) {
		checkBacking(t, stakes, list, debt(0, 10, 1))
	})
	eachOneMore(func(stakes []int, list []impl.Loan, l impl.Loan) {
		checkBacking(t, stakes, list, l)
	})
	for _, stakes := range badStakes() {
		checkBacking(t, stakes, nil, debt(0, 10, 1))
		checkBacking(t, stakes, ringOf(2, 10), debt(0, 10, 1))
	}
	for _, bad := range badDebts() {
		checkBacking(t, times(manyMembers, 100), []impl.Loan{bad}, bad)
		checkBacking(t, times(manyMembers, 100), nil, bad)
	}
}

func TestNumbersOfLoansAreNewMemory(t *testing.T) {
	stakes := roomy(30, 10, 120)
	loans := []impl.Loan{debt(0, 100, 1, 2), debt(1, 50, 2)}
	list := roomyDebts(loans)
	checkNewMemory(t, func() [][]int {
		left, _ := impl.FailLoan(stakes, list, 0)
		leftByOther, _ := impl.FailLoan(stakes, list, 1)
		return [][]int{
			impl.OwedBy(list, 3), impl.OwedBy(nil, 3), impl.ExposureOf(list, 3), impl.ExposureOf(nil, 3), impl.FreeStakes(stakes, list), impl.FreeStakes(stakes, nil),
			left, leftByOther, impl.LevelsOf(list, 3), impl.LevelsOf(nil, 3), impl.ByRisk(stakes, list), impl.ByRisk(stakes, nil),
		}
	})
	checkNewMemory(t, func() [][]int {
		var answers [][]int
		for first := range stakes {
			left, _, failed := impl.Cascade(stakes, list, first)
			alone, _, failedAlone := impl.Cascade(stakes, nil, first)
			answers = append(answers, left, failed, alone, failedAlone)
		}
		return answers
	})
	if !isAsBefore(stakes, 30, 10, 120) || !areDebtsAsBefore(list, loans) {
		t.Errorf("an answer is the memory of %v or %v", stakes, list)
	}
}

func TestListsOfCascadesShareNoMemory(t *testing.T) {
	for members := 1; members <= impl.MaxMembers; members++ {
		for _, stakes := range [][]int{times(members, 0), times(members, 15), upTo(members)} {
			for first := range stakes {
				checkListsShareNoMemory(t, func() [][]int {
					left, _, failed := impl.Cascade(stakes, upwards(members, 10), first)
					return [][]int{left, failed}
				})
				checkListsShareNoMemory(t, func() [][]int {
					left, _, failed := impl.Cascade(stakes, upwards(members, 10), first)
					return [][]int{failed, left}
				})
			}
		}
	}
}

// debtsOfAnswers returns loans that PayLoan and MergeLoans tell.
func debtsOfAnswers(list []impl.Loan) [][]impl.Loan {
	merged, _ := impl.MergeLoans(list, 3)
	none, _ := impl.MergeLoans(list[:1], 3)
	return [][]impl.Loan{impl.PayLoan(list, 3, 0, 1), impl.PayLoan(list, 3, 1, 10), impl.PayLoan(list, 3, len(list)-1, 2), merged, none}
}

func TestLoansAreNewMemory(t *testing.T) {
	loans := []impl.Loan{debt(0, 20, 1, 2), debt(0, 10, 1), debt(0, 5, 1, 2), debt(1, 50, 2)}
	list := roomyDebts(loans)
	first := debtsOfAnswers(list)
	second := debtsOfAnswers(list)
	for i := range first {
		want := roomyDebts(first[i])
		spoilDebts(first[i])
		if third := debtsOfAnswers(list)[i]; len(want) == 0 || !equalDebts(second[i], want) || !equalDebts(third, want) {
			t.Errorf("answer %d is %v, and then %v and %v", i, want, second[i], third)
		}
	}
	if !areDebtsAsBefore(list, loans) {
		t.Errorf("an answer is the memory of %v", list)
	}
}

// The loans that are given have one list of Guards together; those of the answer have one each.
func TestGuardsShareNoMemory(t *testing.T) {
	both := []int{1, 2}
	list := []impl.Loan{debt(0, 20, both...), debt(3, 10, both...), debt(0, 5, both...), debt(4, 5, both[:1]...)}
	guardsOf := func(list []impl.Loan) [][]int {
		var lists [][]int
		for _, l := range list {
			lists = append(lists, l.Guards)
		}
		return lists
	}
	for i := range list {
		for _, amount := range []int{1, 5} {
			checkListsShareNoMemory(t, func() [][]int { return guardsOf(impl.PayLoan(list, 5, i, amount)) })
		}
	}
	checkListsShareNoMemory(t, func() [][]int {
		merged, _ := impl.MergeLoans(list, 5)
		return guardsOf(merged)
	})
	if !equal(both, []int{1, 2}) {
		t.Errorf("the Guards became %v", both)
	}
}
