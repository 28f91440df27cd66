package tests

import (
	"testing"

	"loop.example/savingsclub/impl"
)

func TestValidRate(t *testing.T) {
	for _, r := range someRates() {
		if !impl.ValidRate(r) {
			t.Errorf("ValidRate(%v) is false", r)
		}
	}
	for _, r := range badRates() {
		if impl.ValidRate(r) {
			t.Errorf("ValidRate(%v) is true", r)
		}
	}
}

func TestRoundings(t *testing.T) {
	cases := []struct {
		n                    int
		r                    impl.Rate
		down, up, near, even int
	}{
		{0, rate(1, 2), 0, 0, 0, 0},
		{1, rate(1, 2), 0, 1, 1, 0},
		{3, rate(1, 2), 1, 2, 2, 2},
		{4, rate(1, 2), 2, 2, 2, 2},
		{5, rate(1, 2), 2, 3, 3, 2},
		{7, rate(1, 2), 3, 4, 4, 4},
		{5, rate(50, 100), 2, 3, 3, 2},
		{2, rate(3, 4), 1, 2, 2, 2},
		{6, rate(3, 4), 4, 5, 5, 4},
		{1, rate(1, 3), 0, 1, 0, 0},
		{2, rate(1, 3), 0, 1, 1, 1},
		{10, rate(1, 3), 3, 4, 3, 3},
		{11, rate(1, 3), 3, 4, 4, 4},
		{500, rate(1, 1000), 0, 1, 1, 0},
		{501, rate(1, 1000), 0, 1, 1, 1},
		{499, rate(1, 1000), 0, 1, 0, 0},
		{1500, rate(1, 1000), 1, 2, 2, 2},
		{2500, rate(1, 1000), 2, 3, 3, 2},
		{1000000, rate(999, 1000), 999000, 999000, 999000, 999000},
		{999999, rate(1, 2), 499999, 500000, 500000, 500000},
		{1000000, rate(1, 1), 1000000, 1000000, 1000000, 1000000},
		{1000000, rate(0, 1), 0, 0, 0, 0},
		{999999, rate(998, 999), 998998, 998998, 998998, 998998},
	}
	for _, c := range cases {
		got := [4]int{impl.RoundDown(c.n, c.r), impl.RoundUp(c.n, c.r), impl.RoundNear(c.n, c.r), impl.RoundEven(c.n, c.r)}
		want := [4]int{c.down, c.up, c.near, c.even}
		if got != want {
			t.Errorf("%d times %v is rounded to %v, not %v", c.n, c.r, got, want)
		}
	}
}

func TestRoundingsOfOtherArguments(t *testing.T) {
	check := func(n int, r impl.Rate) {
		if impl.RoundDown(n, r) != -1 || impl.RoundUp(n, r) != -1 || impl.RoundNear(n, r) != -1 || impl.RoundEven(n, r) != -1 {
			t.Errorf("%d times %v is rounded", n, r)
		}
	}
	for _, n := range badAmounts() {
		check(n, rate(0, 1))
		check(n, rate(1, 2))
		check(n, rate(0, 0))
	}
	for _, r := range badRates() {
		check(0, r)
		check(5, r)
		check(impl.MaxAmount, r)
	}
}

// eachProduct calls check for amounts and rates that the promises on rounding are tested with.
func eachProduct(check func(n int, r impl.Rate)) {
	for _, r := range someRates() {
		for n := 0; n <= 3000; n++ {
			check(n, r)
		}
		for n := 3001; n < impl.MaxAmount; n += 997 {
			check(n, r)
		}
		check(impl.MaxAmount, r)
	}
}

func TestP1RatesHaveComplements(t *testing.T) {
	eachProduct(func(n int, r impl.Rate) {
		rest := rate(r.Den-r.Num, r.Den)
		if !impl.ValidRate(rest) || impl.RoundDown(n, r)+impl.RoundUp(n, rest) != n {
			t.Errorf("%v and %v of %d are not all", r, rest, n)
		}
	})
}

func TestP2RoundingDownLosesLessThanOne(t *testing.T) {
	eachProduct(func(n int, r impl.Rate) {
		down := impl.RoundDown(n, r)
		if down*r.Den > n*r.Num || (down+1)*r.Den <= n*r.Num {
			t.Errorf("RoundDown(%d, %v) = %d", n, r, down)
		}
	})
}

func TestP3RoundingUpIsRoundingDownOrOneMore(t *testing.T) {
	eachProduct(func(n int, r impl.Rate) {
		want := impl.RoundDown(n, r)
		if want*r.Den != n*r.Num {
			want++
		}
		if impl.RoundUp(n, r) != want {
			t.Errorf("RoundUp(%d, %v) = %d, not %d", n, r, impl.RoundUp(n, r), want)
		}
	})
}

func TestP4TheNearestIsNoFurtherThanAHalf(t *testing.T) {
	eachProduct(func(n int, r impl.Rate) {
		twice := 2 * (impl.RoundNear(n, r)*r.Den - n*r.Num)
		if twice > r.Den || twice <= -r.Den {
			t.Errorf("RoundNear(%d, %v) = %d", n, r, impl.RoundNear(n, r))
		}
	})
}

func TestP5HalvesGoToTheEvenNumber(t *testing.T) {
	eachProduct(func(n int, r impl.Rate) {
		want := impl.RoundNear(n, r)
		half := 2*(want*r.Den-n*r.Num) == r.Den
		if half && want%2 == 1 {
			want--
		}
		if impl.RoundEven(n, r) != want {
			t.Errorf("RoundEven(%d, %v) = %d, not %d", n, r, impl.RoundEven(n, r), want)
		}
	})
}
