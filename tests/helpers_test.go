package tests

import "loop.example/savingsclub/impl"

const maxInt = int(^uint(0) >> 1)
const minInt = -maxInt - 1

// rate returns a rate.
func rate(num int, den int) impl.Rate {
	return impl.Rate{Num: num, Den: den}
}

// equal reports whether two lists have the same numbers.
func equal(a []int, b []int) bool {
	if len(a) != len(b) {
		return false
	}
	for i := range a {
		if a[i] != b[i] {
			return false
		}
	}
	return true
}

// sumOf returns the sum of numbers.
func sumOf(list []int) int {
	sum := 0
	for _, n := range list {
		sum += n
	}
	return sum
}

// contains reports whether a number is in a list.
func contains(list []int, n int) bool {
	for _, other := range list {
		if other == n {
			return true
		}
	}
	return false
}

// someAmounts returns amounts: both ends, small ones, and others on either side of round ones.
func someAmounts() []int {
	list := []int{99, 100, 101, 120, 250, 333, 999, 1000, 1205, 9999, 10000, 12345, 77777, 99999,
		100000, 123456, 499999, 500000, 500001, 654321, 999990, 999998, 999999, impl.MaxAmount}
	for n := 0; n <= 40; n++ {
		list = append(list, n)
	}
	return list
}

// someRates returns valid rates: 0 and 1 in several terms, halves, and others up to the greatest denominator.
func someRates() []impl.Rate {
	return []impl.Rate{
		rate(0, 1), rate(0, impl.MaxDen), rate(1, 1), rate(impl.MaxDen, impl.MaxDen), rate(7, 7),
		rate(1, 2), rate(50, 100), rate(1, 3), rate(2, 3), rate(1, 4), rate(3, 4), rate(3, 8),
		rate(5, 100), rate(10, 100), rate(12, 1000), rate(1, impl.MaxDen), rate(999, impl.MaxDen), rate(998, 999),
	}
}

// badAmounts returns numbers that are no amounts.
func badAmounts() []int {
	return []int{-1, -100, minInt, impl.MaxAmount + 1, 2 * impl.MaxAmount, maxInt}
}

// badRates returns rates that are not valid.
func badRates() []impl.Rate {
	return []impl.Rate{
		rate(0, 0), rate(1, 0), rate(0, -1), rate(-1, -1), rate(-1, 2), rate(-1, 1), rate(2, 1), rate(3, 2),
		rate(0, impl.MaxDen+1), rate(1, impl.MaxDen+1), rate(impl.MaxDen+1, impl.MaxDen),
		rate(impl.MaxDen+1, impl.MaxDen+1), rate(minInt, 1), rate(maxInt, maxInt), rate(0, minInt),
	}
}
