package tests

import (
	"math/big"
	"testing"

	"loop.example/savingsclub/impl"
)

// share returns a share.
func share(x int, y int) impl.Share {
	return impl.Share{X: x, Y: y}
}

// sharesOf returns shares of places and their values, as many as there are values.
func sharesOf(xs []int, ys ...int) []impl.Share {
	var list []impl.Share
	for i, y := range ys {
		list = append(list, share(xs[i], y))
	}
	return list
}

// someRests returns rests when divided by Prime, with both ends.
func someRests() []int {
	return []int{0, 1, 2, 3, 97, 125, 126, 249, 250}
}

// badRests returns numbers that are no rests when divided by Prime, though some of them have the rest of one that is.
func badRests() []int {
	return []int{-1, -2, -250, -251, minInt, 251, 252, 502, 1 << 31, 1 << 62, maxInt}
}

// someCoefs returns coefficients: none, those that are 0 at the front, at the end and everywhere, the greatest ones, and as many as can be.
func someCoefs() [][]int {
	lists := [][]int{
		nil, {0}, {1}, {250}, {0, 0}, {7, 3}, {0, 5}, {5, 0}, {250, 250}, {0, 0, 5}, {5, 0, 0}, {0, 9, 0}, {100, 200, 50},
		{1, 2, 3, 4, 5, 6, 7, 8}, {0, 0, 0, 0, 0, 0, 0, 1}, {1, 0, 0, 0, 0, 0, 0, 0}, times(impl.MaxFew, 0), times(impl.MaxFew, 250),
	}
	for count := 1; count <= impl.MaxFew; count++ {
		var list []int
		for i := 0; i < count; i++ {
			list = append(list, (count*91+i*i*37+i*11)%251)
		}
		lists = append(lists, list)
	}
	return lists
}

// badCoefs returns lists of which PolyAt is not told.
func badCoefs() [][]int {
	lists := [][]int{times(impl.MaxFew+1, 0), times(impl.MaxFew+1, 250), append([]int{7}, times(impl.MaxFew, 0)...), upTo(100)}
	for _, bad := range badRests() {
		lists = append(lists, []int{bad}, []int{bad, 1}, []int{1, bad}, []int{0, bad, 0}, append(times(impl.MaxFew-1, 1), bad), append([]int{bad}, times(impl.MaxFew-1, 0)...))
	}
	return lists
}

// placesFrom returns different places, each one a step behind the one before; the step has no divisor with 250.
func placesFrom(count int, first int, step int) []int {
	var xs []int
	for i := 0; i < count; i++ {
		xs = append(xs, (first-1+i*step)%250+1)
	}
	return xs
}

// somePlaces returns places of shares: none, up to MaxMembers, both ends, and in several orders.
func somePlaces() [][]int {
	lists := [][]int{nil, {1}, {250}, {125}, {250, 1}, {126, 125}, {3, 1, 2}, {250, 249, 248}, {2, 4, 8, 16}, {5, 50, 150, 200, 250}}
	for count := 1; count <= impl.MaxMembers; count++ {
		lists = append(lists, placesFrom(count, 1, 1), placesFrom(count, 250-count, 77))
	}
	return append(lists, placesFrom(impl.MaxMembers, 250, 249))
}

// badPlaces returns lists of places at which no shares are dealt.
func badPlaces() [][]int {
	lists := [][]int{
		{1, 1}, {250, 250}, {1, 2, 1}, {2, 1, 1}, {3, 2, 1, 3}, append(placesFrom(impl.MaxMembers-1, 1, 1), 1),
		append(placesFrom(impl.MaxMembers-1, 1, 1), impl.MaxMembers-1), placesFrom(impl.MaxMembers+1, 1, 1), placesFrom(200, 1, 1),
	}
	for _, bad := range append(badRests(), 0) {
		lists = append(lists, []int{bad}, []int{bad, 1}, []int{1, bad}, []int{1, bad, 2}, append(placesFrom(impl.MaxMembers-1, 1, 1), bad))
	}
	return lists
}

// eachDeal calls check for coefficients and places of which shares are dealt.
func eachDeal(check func(coefs []int, xs []int)) {
	for _, coefs := range someCoefs() {
		for _, xs := range somePlaces() {
			check(coefs, xs)
		}
	}
}

// eachShares calls check for valid shares: those that are dealt, and those with other values.
func eachShares(check func(list []impl.Share)) {
	eachDeal(func(coefs []int, xs []int) {
		check(impl.DealShares(coefs, xs))
	})
	for _, xs := range somePlaces() {
		for by := 0; by < 6; by++ {
			var list []impl.Share
			for i, x := range xs {
				list = append(list, share(x, (by*83+i*i*by*29+i*17)%251))
			}
			check(list)
		}
	}
}

// badShares returns lists of shares that are not valid.
func badShares() [][]impl.Share {
	var lists [][]impl.Share
	for _, xs := range badPlaces() {
		lists = append(lists, sharesOf(xs, times(len(xs), 0)...), sharesOf(xs, upTo(len(xs))...))
	}
	for _, bad := range badRests() {
		lists = append(lists, sharesOf([]int{1}, bad))
		for _, count := range []int{2, 3, 5, impl.MaxFew, impl.MaxMembers} {
			ys := times(count-1, 7)
			xs := placesFrom(count, 1, 1)
			lists = append(lists, sharesOf(xs, append(ys, bad)...), sharesOf(xs, append([]int{bad}, ys...)...))
		}
	}
	return lists
}

// inverseByTrying returns the number whose product with n has the rest 1.
func inverseByTrying(n int) int {
	inverse := 1
	for n*inverse%251 != 1 {
		inverse++
	}
	return inverse
}

// valueByPowers returns the rest of a sum of powers, which is divided only when it is complete.
func valueByPowers(coefs []int, x int) int {
	sum := big.NewInt(0)
	for k, coef := range coefs {
		power := new(big.Int).Exp(big.NewInt(int64(x)), big.NewInt(int64(k)), nil)
		sum.Add(sum, power.Mul(power, big.NewInt(int64(coef))))
	}
	return int(sum.Mod(sum, big.NewInt(251)).Int64())
}

func TestInverseOf(t *testing.T) {
	for _, c := range [][2]int{{1, 1}, {2, 126}, {126, 2}, {3, 84}, {84, 3}, {4, 63}, {5, 201}, {16, 204}, {125, 249}, {249, 125}, {250, 250}} {
		if got := impl.InverseOf(c[0]); got != c[1] {
			t.Errorf("InverseOf(%d) = %d, not %d", c[0], got, c[1])
		}
	}
	for _, n := range append(badRests(), 0, 253, 501, 503) {
		if got := impl.InverseOf(n); got != -1 {
			t.Errorf("InverseOf(%d) = %d", n, got)
		}
	}
}

func TestP59InversesMultiplyTo1(t *testing.T) {
	if impl.Prime != 251 {
		t.Errorf("Prime is %d", impl.Prime)
	}
	for n := 1; n < impl.Prime; n++ {
		inverse := impl.InverseOf(n)
		if inverse < 1 || inverse >= impl.Prime || n*inverse%impl.Prime != 1 || impl.InverseOf(inverse) != n {
			t.Errorf("InverseOf(%d) = %d, and InverseOf that %d", n, inverse, impl.InverseOf(inverse))
		}
	}
}

func TestPolyAt(t *testing.T) {
	cases := []struct {
		coefs []int
		x     int
		want  int
	}{
		{nil, 0, 0}, {nil, 9, 0}, {nil, 250, 0}, {[]int{}, 250, 0}, {[]int{0}, 7, 0}, {[]int{7}, 0, 7}, {[]int{7}, 250, 7},
		{[]int{5, 3}, 2, 11}, {[]int{100, 200}, 2, 249}, {[]int{100, 200}, 0, 100}, {[]int{0, 1}, 250, 250}, {[]int{0, 250}, 250, 1},
		{[]int{0, 0, 1}, 16, 5}, {[]int{0, 0, 1, 0}, 16, 5}, {[]int{1, 2, 3}, 10, 70}, {[]int{3, 2, 1}, 10, 123}, {[]int{250, 250, 250}, 250, 250},
		{[]int{1, 1, 1, 1, 1, 1, 1, 1}, 2, 4}, {[]int{0, 0, 0, 0, 0, 0, 0, 1}, 2, 128}, {times(impl.MaxFew, 250), 1, 243}, {times(impl.MaxFew, 0), 250, 0},
	}
	for _, c := range cases {
		if got := impl.PolyAt(c.coefs, c.x); got != c.want {
			t.Errorf("PolyAt(%v, %d) = %d, not %d", c.coefs, c.x, got, c.want)
		}
	}
}

func TestPolyAtIsASumOfPowers(t *testing.T) {
	for _, coefs := range someCoefs() {
		for x := 0; x < impl.Prime; x++ {
			if got, want := impl.PolyAt(coefs, x), valueByPowers(coefs, x); got != want {
				t.Errorf("PolyAt(%v, %d) = %d, not %d", coefs, x, got, want)
			}
		}
	}
}

func TestPolyAtOfOtherArguments(t *testing.T) {
	for _, coefs := range badCoefs() {
		for _, x := range append(someRests(), badRests()...) {
			if got := impl.PolyAt(coefs, x); got != -1 {
				t.Errorf("PolyAt(%v, %d) = %d", coefs, x, got)
			}
		}
	}
	for _, coefs := range someCoefs() {
		for _, x := range badRests() {
			if got := impl.PolyAt(coefs, x); got != -1 {
				t.Errorf("PolyAt(%v, %d) = %d", coefs, x, got)
			}
		}
	}
}

func TestP60PolynomialsAreSums(t *testing.T) {
	for _, coefs := range someCoefs() {
		if len(coefs) == 0 {
			continue
		}
		if got := impl.PolyAt(coefs, 0); got != coefs[0] {
			t.Errorf("PolyAt(%v, 0) = %d", coefs, got)
		}
		for x := 0; x < impl.Prime; x++ {
			if got, others := impl.PolyAt(coefs, x), impl.PolyAt(coefs[1:], x); got != (coefs[0]+x*others)%impl.Prime {
				t.Errorf("PolyAt(%v, %d) = %d, and without the first one %d", coefs, x, got, others)
			}
		}
	}
}

func TestDealShares(t *testing.T) {
	cases := []struct {
		coefs []int
		xs    []int
		ys    []int
	}{
		{[]int{7, 3}, []int{1, 2, 3}, []int{10, 13, 16}},
		{[]int{7, 3}, []int{3, 1, 250}, []int{16, 10, 4}},
		{[]int{7}, []int{9, 8}, []int{7, 7}},
		{nil, []int{1, 250, 2}, []int{0, 0, 0}},
		{[]int{7, 3}, nil, nil},
		{nil, nil, nil},
		{[]int{0, 250}, placesFrom(impl.MaxMembers, 1, 1), []int{250, 249, 248, 247, 246, 245, 244, 243, 242, 241, 240, 239}},
		{[]int{1, 1, 1, 1, 1, 1, 1, 1}, []int{1, 2, 250}, []int{8, 4, 0}},
	}
	for _, c := range cases {
		if got := impl.DealShares(c.coefs, c.xs); !equal(got, sharesOf(c.xs, c.ys...)) {
			t.Errorf("DealShares(%v, %v) = %v, not the values %v", c.coefs, c.xs, got, c.ys)
		}
	}
}

func TestDealSharesIsPolyAt(t *testing.T) {
	eachDeal(func(coefs []int, xs []int) {
		var want []impl.Share
		for _, x := range xs {
			want = append(want, share(x, impl.PolyAt(coefs, x)))
		}
		if got := impl.DealShares(coefs, xs); !equal(got, want) || !impl.ValidShares(got) {
			t.Errorf("DealShares(%v, %v) = %v, not %v", coefs, xs, got, want)
		}
	})
}

func TestDealSharesOfOtherArguments(t *testing.T) {
	for _, coefs := range badCoefs() {
		for _, xs := range somePlaces() {
			if got := impl.DealShares(coefs, xs); len(got) != 0 {
				t.Errorf("DealShares(%v, %v) = %v", coefs, xs, got)
			}
		}
	}
	for _, xs := range badPlaces() {
		for _, coefs := range append(someCoefs(), times(impl.MaxFew+1, 0), []int{-1}) {
			if got := impl.DealShares(coefs, xs); len(got) != 0 {
				t.Errorf("DealShares(%v, %v) = %v", coefs, xs, got)
			}
		}
	}
}

func TestValidShares(t *testing.T) {
	if !impl.ValidShares(nil) || !impl.ValidShares([]impl.Share{}) {
		t.Error("no shares are not valid")
	}
	for x := 1; x < impl.Prime; x++ {
		for _, y := range someRests() {
			if !impl.ValidShares([]impl.Share{share(x, y)}) {
				t.Errorf("the share %d, %d is not valid", x, y)
			}
		}
	}
	eachShares(func(list []impl.Share) {
		if !impl.ValidShares(list) {
			t.Errorf("ValidShares(%v) is false", list)
		}
	})
	for _, list := range badShares() {
		if impl.ValidShares(list) {
			t.Errorf("ValidShares(%v) is true", list)
		}
	}
}

func TestP63SharesCanBeLost(t *testing.T) {
	eachShares(func(list []impl.Share) {
		for i := range list {
			if rest := without(list, i); !impl.ValidShares(list) || !impl.ValidShares(rest) {
				t.Errorf("%v is not valid without share %d", list, i)
			}
		}
	})
}
