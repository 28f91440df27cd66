package tests

import (
	"fmt"
	"strings"
	"testing"

	"loop.example/savingsclub/impl"
)

func TestSplitEven(t *testing.T) {
	cases := []struct {
		n     int
		parts int
		want  []int
	}{
		{10, 3, []int{4, 3, 3}},
		{11, 3, []int{4, 4, 3}},
		{12, 3, []int{4, 4, 4}},
		{0, 2, []int{0, 0}},
		{2, 4, []int{1, 1, 0, 0}},
		{7, 1, []int{7}},
		{impl.MaxAmount, 1, []int{impl.MaxAmount}},
		{impl.MaxAmount, 7, []int{142858, 142857, 142857, 142857, 142857, 142857, 142857}},
		{13, impl.MaxMembers, []int{2, 1, 1, 1, 1, 1, 1, 1, 1, 1, 1, 1}},
	}
	for _, c := range cases {
		if got := impl.SplitEven(c.n, c.parts); !equal(got, c.want) {
			t.Errorf("SplitEven(%d, %d) = %v, not %v", c.n, c.parts, got, c.want)
		}
	}
}

func TestSplitEvenOfOtherArguments(t *testing.T) {
	for _, n := range badAmounts() {
		if len(impl.SplitEven(n, 1)) != 0 || len(impl.SplitEven(n, impl.MaxMembers)) != 0 {
			t.Errorf("SplitEven of %d is told", n)
		}
	}
	for _, parts := range []int{0, -1, impl.MaxMembers + 1, minInt, maxInt} {
		if len(impl.SplitEven(10, parts)) != 0 || len(impl.SplitEven(0, parts)) != 0 {
			t.Errorf("SplitEven into %d parts is told", parts)
		}
	}
}

func TestP17EqualPartsAreAll(t *testing.T) {
	for _, n := range someAmounts() {
		for parts := 1; parts <= impl.MaxMembers; parts++ {
			list := impl.SplitEven(n, parts)
			if len(list) != parts || sumOf(list) != n || list[0]-list[parts-1] > 1 {
				t.Fatalf("SplitEven(%d, %d) = %v", n, parts, list)
			}
			for i := 1; i < parts; i++ {
				if list[i] > list[i-1] {
					t.Errorf("SplitEven(%d, %d) = %v", n, parts, list)
				}
			}
		}
	}
}

func TestShowMoney(t *testing.T) {
	cases := []struct {
		n    int
		want string
	}{
		{0, "0.00"}, {5, "0.05"}, {10, "0.10"}, {99, "0.99"}, {100, "1.00"}, {101, "1.01"}, {110, "1.10"},
		{999, "9.99"}, {1000, "10.00"}, {1205, "12.05"}, {100000, "1000.00"}, {999999, "9999.99"}, {impl.MaxAmount, "10000.00"},
	}
	for _, c := range cases {
		if got := impl.ShowMoney(c.n); got != c.want {
			t.Errorf("ShowMoney(%d) = %q, not %q", c.n, got, c.want)
		}
	}
	for _, n := range badAmounts() {
		if impl.ShowMoney(n) != "" {
			t.Errorf("ShowMoney(%d) = %q", n, impl.ShowMoney(n))
		}
	}
}

// otherTexts returns texts that are no amounts.
func otherTexts() []string {
	return []string{"", ".", "0", "00", "000", "0.0", "0.000", "1.5", "12.5", "12.050", "1205", "12,05", "12:05", ".05", ".005",
		"00.05", "012.05", "000012.05", "0012.05", "12.0x", "1x.05", "x12.05", "12x.05", "-1.00", "+1.00", "-0.05", "1.-5",
		" 1.00", "1.00 ", "1. 00", "1 .00", "1.00\n", "1..00", "1.0.0", "1.2.34", "1.00.", "10000.01", "10000.10", "10001.00", "99999.99",
		"100000.00", "1000000", "1000000.00", "1e2.00", "0x1.00", "１.00", "\x001.00", "1.0\xff", "18446744073709551616.05",
		"184467440737095516.17", strings.Repeat("0", 1000) + ".05", strings.Repeat("9", 100000) + ".00"}
}

func TestReadMoneyOfOtherTexts(t *testing.T) {
	for _, s := range otherTexts() {
		if impl.ReadMoney(s) != -1 {
			t.Errorf("ReadMoney(%q) = %d", s, impl.ReadMoney(s))
		}
	}
}

func TestP18AmountsAreReadBack(t *testing.T) {
	for n := 0; n <= impl.MaxAmount; n++ {
		if impl.ReadMoney(impl.ShowMoney(n)) != n {
			t.Fatalf("ReadMoney(%q) = %d, not %d", impl.ShowMoney(n), impl.ReadMoney(impl.ShowMoney(n)), n)
		}
	}
}

// changedTexts returns a text with each byte changed to each of some others, left out, or doubled.
func changedTexts(s string) []string {
	var list []string
	for i := range len(s) {
		list = append(list, s[:i]+s[i+1:], s[:i+1]+s[i:])
		for _, b := range []string{"0", "1", "9", ".", ",", "-", "+", " ", "x"} {
			list = append(list, s[:i]+b+s[i+1:], s[:i]+b+s[i:])
		}
	}
	return append(list, s+"0", s+".", s+" ")
}

func TestP19AmountsAreWrittenBack(t *testing.T) {
	for _, n := range someAmounts() {
		text := fmt.Sprintf("%d.%02d", n/100, n%100)
		if impl.ReadMoney(text) != n || impl.ShowMoney(n) != text {
			t.Errorf("%d is written %q and read %d from %q", n, impl.ShowMoney(n), impl.ReadMoney(text), text)
		}
		for _, s := range changedTexts(text) {
			read := impl.ReadMoney(s)
			if read < -1 || read >= 0 && impl.ShowMoney(read) != s {
				t.Errorf("ReadMoney(%q) = %d", s, read)
			}
		}
	}
}
