package tests

import (
	"strconv"
	"testing"

	"loop.example/savingsclub/impl"
)

func TestNineOf(t *testing.T) {
	for _, c := range [][2]int{{0, 0}, {8, 8}, {9, 0}, {10, 1}, {1234, 1}, {999999, 0}, {1000000, 1}, {1000001, 2},
		{maxInt, 7}, {-1, -1}, {-9, -1}, {-10, -1}, {minInt, -1}} {
		if got := impl.NineOf(c[0]); got != c[1] {
			t.Errorf("NineOf(%d) = %d, not %d", c[0], got, c[1])
		}
	}
}

func TestDigitSum(t *testing.T) {
	for _, c := range [][2]int{{0, 0}, {7, 7}, {10, 1}, {1234, 10}, {1230, 6}, {1020, 3}, {999999, 54}, {1000000, 1}} {
		if got := impl.DigitSum(c[0]); got != c[1] {
			t.Errorf("DigitSum(%d) = %d, not %d", c[0], got, c[1])
		}
	}
	for _, n := range badAmounts() {
		if impl.DigitSum(n) != -1 {
			t.Errorf("DigitSum(%d) = %d", n, impl.DigitSum(n))
		}
	}
}

func TestAlternateSum(t *testing.T) {
	for _, c := range [][2]int{{0, 0}, {7, 7}, {19, 8}, {91, -8}, {10, -1}, {11, 0}, {100, 1}, {120, -1}, {1234, 2},
		{909090, -27}, {90909, 27}, {999999, 0}, {1000000, 1}} {
		if got := impl.AlternateSum(c[0]); got != c[1] {
			t.Errorf("AlternateSum(%d) = %d, not %d", c[0], got, c[1])
		}
	}
	for _, n := range badAmounts() {
		if impl.AlternateSum(n) != 0 {
			t.Errorf("AlternateSum(%d) = %d", n, impl.AlternateSum(n))
		}
	}
}

func TestSwappedOf(t *testing.T) {
	cases := []struct {
		n    int
		want []int
	}{
		{1234, []int{2134, 1324, 1243}},
		{1123, []int{1213, 1132}},
		{1223, []int{2123, 1232}},
		{1233, []int{2133, 1323}},
		{1111, nil},
		{7, nil},
		{0, nil},
		{10, nil},
		{12, []int{21}},
		{11, nil},
		{100, nil},
		{120, []int{210, 102}},
		{102, []int{120}},
		{110, []int{101}},
		{1002, []int{1020}},
		{1200, []int{2100, 1020}},
		{123450, []int{213450, 132450, 124350, 123540, 123405}},
		{999999, nil},
		{999998, []int{999989}},
		{899999, []int{989999}},
		{impl.MaxAmount, nil},
	}
	for _, c := range cases {
		if got := impl.SwappedOf(c.n); !equal(got, c.want) {
			t.Errorf("SwappedOf(%d) = %v, not %v", c.n, got, c.want)
		}
	}
	for _, n := range badAmounts() {
		if len(impl.SwappedOf(n)) != 0 {
			t.Errorf("SwappedOf(%d) = %v", n, impl.SwappedOf(n))
		}
	}
}

// swappedText returns what SwappedOf is to be, by exchanging bytes of the decimal text.
func swappedText(n int) []int {
	var list []int
	text := strconv.Itoa(n)
	for i := 0; i+1 < len(text); i++ {
		swapped := []byte(text)
		swapped[i], swapped[i+1] = swapped[i+1], swapped[i]
		if text[i] != text[i+1] && swapped[0] != '0' {
			number, _ := strconv.Atoi(string(swapped))
			list = append(list, number)
		}
	}
	return list
}

// someNumbers returns all numbers up to 20000, and others up to MaxAmount.
func someNumbers() []int {
	var list []int
	for n := 0; n <= 20000; n++ {
		list = append(list, n)
	}
	for n := 20001; n < impl.MaxAmount; n += 37 {
		list = append(list, n)
	}
	return append(list, impl.MaxAmount-1, impl.MaxAmount)
}

func TestP13NinesAreCastOut(t *testing.T) {
	for _, n := range someNumbers() {
		nine := impl.NineOf(n)
		if nine < 0 || nine > 8 || (n-nine)%9 != 0 || nine != impl.NineOf(impl.DigitSum(n)) || nine != impl.NineOf(n+9) {
			t.Fatalf("NineOf(%d) = %d", n, nine)
		}
	}
}

func TestP14DigitsAddUp(t *testing.T) {
	for _, n := range someNumbers() {
		sum := impl.DigitSum(n)
		if 10*n <= impl.MaxAmount && impl.DigitSum(10*n) != sum {
			t.Fatalf("DigitSum(%d) = %d, and of ten times it %d", n, sum, impl.DigitSum(10*n))
		}
		if n < impl.MaxAmount && n%10 != 9 && impl.DigitSum(n+1) != sum+1 {
			t.Fatalf("DigitSum(%d) = %d, and of 1 more %d", n, sum, impl.DigitSum(n+1))
		}
	}
}

func TestP15ElevensAreCastOut(t *testing.T) {
	for _, n := range someNumbers() {
		sum := impl.AlternateSum(n)
		if (sum-n)%11 != 0 || sum < -27 || sum > 27 {
			t.Fatalf("AlternateSum(%d) = %d", n, sum)
		}
		if 10*n <= impl.MaxAmount && impl.AlternateSum(10*n) != -sum {
			t.Fatalf("AlternateSum(%d) = %d, and of ten times it %d", n, sum, impl.AlternateSum(10*n))
		}
	}
}

func TestP16ExchangedDigitsHideFromNines(t *testing.T) {
	for _, n := range someNumbers() {
		list := impl.SwappedOf(n)
		if !equal(list, swappedText(n)) {
			t.Fatalf("SwappedOf(%d) = %v, not %v", n, list, swappedText(n))
		}
		for _, other := range list {
			if impl.NineOf(other) != impl.NineOf(n) || impl.DigitSum(other) != impl.DigitSum(n) || (other-n)%11 == 0 {
				t.Fatalf("SwappedOf(%d) has %d", n, other)
			}
			if !contains(impl.SwappedOf(other), n) {
				t.Fatalf("SwappedOf(%d) has not %d", other, n)
			}
		}
	}
}
