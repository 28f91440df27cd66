package tests

import (
	"testing"

	"loop.example/savingsclub/impl"
)

// The functions of this chapter have no lists as arguments, so what is left to
// test is that an answer is nobody else's, and that rates are as before.

func TestAnswersAreNewMemory(t *testing.T) {
	checkNewMemory(t, func() [][]int {
		return [][]int{
			impl.OwedAfter(100, rate(10, 100), 60),
			impl.OwedAfter(100, rate(10, 100), 10),
			impl.SwappedOf(123450),
			impl.SplitEven(100, 7),
		}
	})
}

func TestArgumentsAreAsBefore(t *testing.T) {
	rates := []impl.Rate{rate(50, 100), rate(0, 1000), rate(2, 1)}
	for i, before := range []impl.Rate{rate(50, 100), rate(0, 1000), rate(2, 1)} {
		impl.ValidRate(rates[i])
		impl.RoundDown(5, rates[i])
		impl.RoundUp(5, rates[i])
		impl.RoundNear(5, rates[i])
		impl.RoundEven(5, rates[i])
		impl.Compound(5, rates[i], 3)
		impl.OwedAfter(5, rates[i], 3)
		impl.LeastPay(5, rates[i], 3)
		impl.InterestOf(5, rates[i], 3)
		if rates[i] != before {
			t.Errorf("%v became %v", before, rates[i])
		}
	}
}
