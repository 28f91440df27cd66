package tests

import (
	"testing"

	"loop.example/savingsclub/impl"
)

const maxInt = int(^uint(0) >> 1)
const minInt = -maxInt - 1

// rate returns a rate.
func rate(num int, den int) impl.Rate {
	return impl.Rate{Num: num, Den: den}
}

// equal reports whether two lists have the same numbers, or whatever they are lists of.
func equal[T comparable](a []T, b []T) bool {
	if len(a) != len(b) {
		return false
	}
	for i := range a {
		if a[i] != b[i] {
			return false
		}
	}
	return true
}

// sumOf returns the sum of numbers.
func sumOf(list []int) int {
	sum := 0
	for _, n := range list {
		sum += n
	}
	return sum
}

// contains reports whether a number is in a list.
func contains(list []int, n int) bool {
	for _, other := range list {
		if other == n {
			return true
		}
	}
	return false
}

// someAmounts returns amounts: both ends, small ones, and others on either side of round ones.
func someAmounts() []int {
	list := []int{99, 100, 101, 120, 250, 333, 999, 1000, 1205, 9999, 10000, 12345, 77777, 99999,
		100000, 123456, 499999, 500000, 500001, 654321, 999990, 999998, 999999, impl.MaxAmount}
	for n := 0; n <= 40; n++ {
		list = append(list, n)
	}
	return list
}

// someRates returns valid rates: 0 and 1 in several terms, halves, and others up to the greatest denominator.
func someRates() []impl.Rate {
	return []impl.Rate{
		rate(0, 1), rate(0, impl.MaxDen), rate(1, 1), rate(impl.MaxDen, impl.MaxDen), rate(7, 7),
		rate(1, 2), rate(50, 100), rate(1, 3), rate(2, 3), rate(1, 4), rate(3, 4), rate(3, 8),
		rate(5, 100), rate(10, 100), rate(12, 1000), rate(1, impl.MaxDen), rate(999, impl.MaxDen), rate(998, 999),
	}
}

// badAmounts returns numbers that are no amounts.
func badAmounts() []int {
	return []int{-1, -100, minInt, impl.MaxAmount + 1, 2 * impl.MaxAmount, maxInt}
}

// badRates returns rates that are not valid.
func badRates() []impl.Rate {
	return []impl.Rate{
		rate(0, 0), rate(1, 0), rate(0, -1), rate(-1, -1), rate(-1, 2), rate(-1, 1), rate(2, 1), rate(3, 2),
		rate(0, impl.MaxDen+1), rate(1, impl.MaxDen+1), rate(impl.MaxDen+1, impl.MaxDen),
		rate(impl.MaxDen+1, impl.MaxDen+1), rate(minInt, 1), rate(maxInt, maxInt), rate(0, minInt),
	}
}

// equalLists reports whether two lists of lists have the same numbers.
func equalLists(a [][]int, b [][]int) bool {
	if len(a) != len(b) {
		return false
	}
	for i := range a {
		if !equal(a[i], b[i]) {
			return false
		}
	}
	return true
}

// without returns a list without what is at an index, as a new list.
func without[T any](list []T, index int) []T {
	var rest []T
	for i, n := range list {
		if i != index {
			rest = append(rest, n)
		}
	}
	return rest
}

// reversed returns a list in reverse order, as a new list.
func reversed[T any](list []T) []T {
	var back []T
	for i := len(list) - 1; i >= 0; i-- {
		back = append(back, list[i])
	}
	return back
}

// isAmong reports whether all numbers of a list are in another one.
func isAmong(numbers []int, list []int) bool {
	for _, n := range numbers {
		if !contains(list, n) {
			return false
		}
	}
	return true
}

// times returns a list with a number, or whatever it is, as often as told.
func times[T any](count int, n T) []T {
	var list []T
	for i := 0; i < count; i++ {
		list = append(list, n)
	}
	return list
}

// allLists returns all lists of count values, each of which may be there several times.
func allLists[T any](count int, values []T) [][]T {
	lists := [][]T{nil}
	for i := 0; i < count; i++ {
		var longer [][]T
		for _, list := range lists {
			for _, value := range values {
				longer = append(longer, append(append([]T{}, list...), value))
			}
		}
		lists = longer
	}
	return lists
}

// dice returns a function whose numbers, each less than count, look like those of dice, but are always the same ones for a number.
func dice(by int) func(count int) int {
	state := by
	return func(count int) int {
		state = (state*1103515245 + 12345) % (1 << 31)
		return state / 65536 % count
	}
}

// permutations returns all orders of the numbers from 0 up to count less 1.
func permutations(count int) [][]int {
	if count == 0 {
		return [][]int{nil}
	}
	var all [][]int
	for _, order := range permutations(count - 1) {
		for place := 0; place < count; place++ {
			longer := append([]int{}, order[:place]...)
			longer = append(longer, count-1)
			all = append(all, append(longer, order[place:]...))
		}
	}
	return all
}

// subsets returns all lists of some of the numbers from 0 up to count less 1, each
// ascending, by the sum of 2 to the power of each number.
func subsets(count int) [][]int {
	all := [][]int{nil}
	for n := 0; n < count; n++ {
		for _, list := range all {
			all = append(all, append(append([]int{}, list...), n))
		}
	}
	return all
}

// roomForMore is how many numbers roomy puts behind a list.
const roomForMore = 3

// roomy returns a list with room behind it, in which there are numbers that nobody may write over.
func roomy(numbers ...int) []int {
	list := append([]int{}, numbers...)
	for i := 0; i < roomForMore; i++ {
		list = append(list, -99)
	}
	return list[:len(numbers)]
}

// isAsBefore reports whether a list made by roomy has the numbers still, and the room behind it, too.
func isAsBefore(list []int, numbers ...int) bool {
	all := roomy(numbers...)
	return equal(list[:len(numbers)+roomForMore], all[:len(numbers)+roomForMore])
}

// checkListsAreAsBefore fails if a call writes into lists, or into the room behind each of them or behind all.
func checkListsAreAsBefore(t *testing.T, before [][]int, call func(lists [][]int)) {
	t.Helper()
	lists := append(append([][]int{}, before...), []int{7, 8})
	var given [][]int
	for _, list := range lists {
		given = append(given, roomy(list...))
	}
	same := append([][]int{}, given...)
	call(given[:len(before)])
	for i, list := range lists {
		if len(given[i]) != len(list) || &given[i][:1][0] != &same[i][:1][0] || !isAsBefore(same[i], list...) {
			t.Errorf("list %d of %v, or behind it, became %v", i, before, given[i])
		}
	}
}

// spoil writes into a list and into the room behind it.
func spoil(list []int) {
	for i := range list {
		list[i] = -7
	}
	list = list[:cap(list)]
	for i := range list {
		list[i] = -7
	}
}

// checkListsShareNoMemory fails if lists of an answer, or of one that is told later, are others when a list of it is written into.
func checkListsShareNoMemory(t *testing.T, answer func() [][]int) {
	t.Helper()
	want := answer()
	got := answer()
	for i := range got {
		spoil(got[i])
		if !equalLists(got[i+1:], want[i+1:]) {
			t.Errorf("list %d of %v is in others, too", i, want)
		}
	}
	if again := answer(); !equalLists(again, want) {
		t.Errorf("the answer is %v, and then %v", want, again)
	}
}

// checkNewMemory fails if answers, none of which is empty, are others when those that were told before are written into.
func checkNewMemory(t *testing.T, answers func() [][]int) {
	t.Helper()
	first := answers()
	second := answers()
	for i, list := range first {
		want := append([]int{}, list...)
		spoil(list)
		if third := answers()[i]; len(want) == 0 || !equal(second[i], want) || !equal(third, want) {
			t.Errorf("answer %d is %v, and then %v and %v", i, want, second[i], third)
		}
	}
}
