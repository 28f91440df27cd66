package tests

import (
	"testing"

	"loop.example/savingsclub/impl"
)

// The functions of this chapter have no lists as arguments, so what is left to
// test is that an answer is nobody else's, and that rates are as before.

// spoil writes into a list and into the room behind it.
func spoil(list []int) {
	for i := range list {
		list[i] = -7
	}
	list = list[:cap(list)]
	for i := range list {
		list[i] = -7
	}
}

func TestAnswersAreNewMemory(t *testing.T) {
	answers := func() [][]int {
		return [][]int{
			impl.OwedAfter(100, rate(10, 100), 60),
			impl.OwedAfter(100, rate(10, 100), 10),
			impl.SwappedOf(123450),
			impl.SplitEven(100, 7),
		}
	}
	first := answers()
	second := answers()
	for _, list := range first {
		spoil(list)
	}
	third := answers()
	for i := range first {
		if len(second[i]) == 0 || !equal(second[i], third[i]) {
			t.Errorf("answer %d is %v, and then %v", i, second[i], third[i])
		}
	}
}

func TestArgumentsAreAsBefore(t *testing.T) {
	rates := []impl.Rate{rate(50, 100), rate(0, 1000), rate(2, 1)}
	for i, before := range []impl.Rate{rate(50, 100), rate(0, 1000), rate(2, 1)} {
		impl.ValidRate(rates[i])
		impl.RoundDown(5, rates[i])
		impl.RoundUp(5, rates[i])
		impl.RoundNear(5, rates[i])
		impl.RoundEven(5, rates[i])
		impl.Compound(5, rates[i], 3)
		impl.OwedAfter(5, rates[i], 3)
		impl.LeastPay(5, rates[i], 3)
		impl.InterestOf(5, rates[i], 3)
		if rates[i] != before {
			t.Errorf("%v became %v", before, rates[i])
		}
	}
}
