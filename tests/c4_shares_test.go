package tests

import (
	"testing"

	"loop.example/savingsclub/impl"
)

// valueThrough returns the value at x of the polynomial through shares, as the sum of one polynomial for each share that is 0 at all others.
func valueThrough(list []impl.Share, x int) int {
	sum := 0
	for i, one := range list {
		product := one.Y
		for k, other := range list {
			if k != i {
				product = product * (x + 251 - other.X) % 251 * inverseByTrying(one.X+251-other.X) % 251
			}
		}
		sum += product
	}
	return sum % 251
}

// changed returns shares with more as the value of the one at an index, as a new list.
func changed(list []impl.Share, index int, more int) []impl.Share {
	others := append([]impl.Share{}, list...)
	others[index].Y = (others[index].Y + more) % 251
	return others
}

func TestPolyThrough(t *testing.T) {
	cases := []struct {
		list []impl.Share
		want []int
	}{
		{nil, nil},
		{[]impl.Share{share(1, 0)}, []int{0}},
		{[]impl.Share{share(250, 9)}, []int{9}},
		{[]impl.Share{share(1, 10), share(2, 13)}, []int{7, 3}},
		{[]impl.Share{share(1, 10), share(2, 13), share(3, 16)}, []int{7, 3, 0}},
		{[]impl.Share{share(3, 16), share(2, 13), share(1, 10)}, []int{7, 3, 0}},
		{[]impl.Share{share(1, 0), share(2, 0)}, []int{0, 0}},
		{[]impl.Share{share(1, 1), share(250, 250)}, []int{0, 1}},
		{[]impl.Share{share(1, 250), share(250, 1)}, []int{0, 250}},
		{[]impl.Share{share(7, 1), share(250, 1)}, []int{1, 0}},
		{[]impl.Share{share(1, 1), share(2, 4), share(3, 9)}, []int{0, 0, 1}},
		{[]impl.Share{share(1, 2), share(2, 5), share(3, 10), share(16, 6)}, []int{1, 0, 1, 0}},
		{sharesOf(placesFrom(impl.MaxFew, 1, 1), 1, 8, 27, 64, 125, 216, 92, 10), []int{0, 0, 0, 1, 0, 0, 0, 0}},
		{sharesOf(placesFrom(impl.MaxFew, 1, 1), times(impl.MaxFew, 0)...), times(impl.MaxFew, 0)},
	}
	for _, c := range cases {
		if got := impl.PolyThrough(c.list); !equal(got, c.want) {
			t.Errorf("PolyThrough(%v) = %v, not %v", c.list, got, c.want)
		}
	}
}

func TestPolyThroughIsTheOnlyOne(t *testing.T) {
	for _, list := range [][]impl.Share{
		{share(1, 10), share(2, 13)}, {share(250, 0), share(125, 250)}, {share(2, 7), share(1, 7)},
	} {
		var found [][]int
		for a := 0; a < 251; a++ {
			for b := 0; b < 251; b++ {
				if (a+b*list[0].X)%251 == list[0].Y && (a+b*list[1].X)%251 == list[1].Y {
					found = append(found, []int{a, b})
				}
			}
		}
		if got := impl.PolyThrough(list); !equalLists([][]int{got}, found) {
			t.Errorf("PolyThrough(%v) = %v, not %v", list, got, found)
		}
	}
}

func TestPolyThroughDealtShares(t *testing.T) {
	eachDeal(func(coefs []int, xs []int) {
		if len(xs) > impl.MaxFew || len(xs) < len(coefs) {
			return
		}
		want := append(append([]int{}, coefs...), times(len(xs)-len(coefs), 0)...)
		if got := impl.PolyThrough(impl.DealShares(coefs, xs)); !equal(got, want) {
			t.Errorf("PolyThrough shares of %v at %v is %v", coefs, xs, got)
		}
	})
}

// isToldFor reports whether a polynomial or a secret can be told for so many valid shares.
func isToldFor(list []impl.Share) bool {
	return len(list) >= 1 && len(list) <= impl.MaxFew
}

func TestPolyThroughOtherShares(t *testing.T) {
	check := func(list []impl.Share) {
		if got := impl.PolyThrough(list); len(got) != 0 {
			t.Errorf("PolyThrough(%v) = %v", list, got)
		}
		if got := impl.OpenSecret(list); got != -1 {
			t.Errorf("OpenSecret(%v) = %d", list, got)
		}
	}
	eachShares(func(list []impl.Share) {
		if !isToldFor(list) {
			check(list)
		}
	})
	for _, list := range badShares() {
		check(list)
	}
}

func TestP64PolynomialsGoThroughTheirShares(t *testing.T) {
	eachShares(func(list []impl.Share) {
		if !isToldFor(list) {
			return
		}
		coefs := impl.PolyThrough(list)
		if len(coefs) != len(list) || !equal(impl.PolyThrough(reversed(list)), coefs) {
			t.Errorf("PolyThrough(%v) = %v, and in reverse order %v", list, coefs, impl.PolyThrough(reversed(list)))
		}
		for _, one := range list {
			if got := impl.PolyAt(coefs, one.X); got != one.Y {
				t.Errorf("PolyThrough(%v) is %d at %d", list, got, one.X)
			}
		}
	})
}

func TestOpenSecret(t *testing.T) {
	list := impl.DealShares([]int{7, 3}, placesFrom(impl.MaxMembers, 1, 1))
	cases := []struct {
		list []impl.Share
		want int
	}{
		{nil, -1}, {list[:1], 10}, {list[4:5], 22}, {list[:2], 7}, {list[1:3], 7}, {list[:3], 7}, {list[:impl.MaxFew], 7}, {list[4:], 7},
		{list[:impl.MaxFew+1], -1}, {list, -1}, {[]impl.Share{share(1, 10), share(3, 20)}, 5}, {[]impl.Share{share(2, 13), share(3, 20)}, 250},
		{[]impl.Share{share(9, 0)}, 0}, {[]impl.Share{share(1, 250), share(250, 1)}, 0},
	}
	for _, c := range cases {
		if got := impl.OpenSecret(c.list); got != c.want {
			t.Errorf("OpenSecret(%v) = %d, not %d", c.list, got, c.want)
		}
	}
}

func TestP61EnoughSharesOpenTheSecret(t *testing.T) {
	eachDeal(func(coefs []int, xs []int) {
		list := impl.DealShares(coefs, xs)
		for i := 0; i+len(coefs) <= len(list) && len(coefs) > 0; i++ {
			if some := list[i : i+len(coefs)]; impl.OpenSecret(some) != coefs[0] {
				t.Errorf("OpenSecret(%v) = %d, not the first one of %v", some, impl.OpenSecret(some), coefs)
			}
		}
	})
}

func TestP62MoreSharesThanNeededOpenItToo(t *testing.T) {
	eachDeal(func(coefs []int, xs []int) {
		list := impl.DealShares(coefs, xs)
		if !isToldFor(list) || len(coefs) == 0 || len(list) < len(coefs) {
			return
		}
		if got := impl.OpenSecret(list); got != coefs[0] {
			t.Errorf("OpenSecret(%v) = %d, not the first one of %v", list, got, coefs)
		}
	})
}

func TestP65TheSecretIsAt0(t *testing.T) {
	eachShares(func(list []impl.Share) {
		if !isToldFor(list) {
			return
		}
		got := impl.OpenSecret(list)
		if got != impl.PolyAt(impl.PolyThrough(list), 0) || got != valueThrough(list, 0) {
			t.Errorf("OpenSecret(%v) = %d, not %d, nor %d", list, got, impl.PolyAt(impl.PolyThrough(list), 0), valueThrough(list, 0))
		}
	})
}

func TestAddShares(t *testing.T) {
	cases := []struct {
		xs   []int
		a    []int
		b    []int
		want []int
	}{
		{nil, nil, nil, nil},
		{[]int{1, 2}, []int{10, 13}, []int{1, 2}, []int{11, 15}},
		{[]int{250, 1}, []int{250, 1}, []int{250, 249}, []int{249, 250}},
		{[]int{7}, []int{250}, []int{1}, []int{0}},
		{[]int{7}, []int{0}, []int{0}, []int{0}},
		{placesFrom(impl.MaxMembers, 1, 1), upTo(impl.MaxMembers), times(impl.MaxMembers, 245), []int{245, 246, 247, 248, 249, 250, 0, 1, 2, 3, 4, 5}},
	}
	for _, c := range cases {
		if got := impl.AddShares(sharesOf(c.xs, c.a...), sharesOf(c.xs, c.b...)); !equal(got, sharesOf(c.xs, c.want...)) {
			t.Errorf("AddShares at %v of %v and %v = %v, not %v", c.xs, c.a, c.b, got, c.want)
		}
	}
}

// checkNoSums fails if AddShares is told, either way round.
func checkNoSums(t *testing.T, a []impl.Share, b []impl.Share) {
	t.Helper()
	if len(impl.AddShares(a, b)) != 0 || len(impl.AddShares(b, a)) != 0 {
		t.Errorf("AddShares(%v, %v) = %v, and the other way round %v", a, b, impl.AddShares(a, b), impl.AddShares(b, a))
	}
}

func TestAddSharesOfOtherShares(t *testing.T) {
	for _, list := range badShares() {
		checkNoSums(t, list, list)
		checkNoSums(t, list, nil)
		checkNoSums(t, list, sharesOf(placesFrom(len(list), 1, 1), times(len(list), 0)...))
		var zeros []impl.Share
		for _, one := range list {
			zeros = append(zeros, share(one.X, 0))
		}
		checkNoSums(t, list, zeros)
	}
	for count := 1; count <= impl.MaxMembers; count++ {
		list := impl.DealShares([]int{7, 3}, placesFrom(count, 1, 1))
		checkNoSums(t, list, nil)
		checkNoSums(t, list, list[:count-1])
		checkNoSums(t, list, list[1:])
		for i := range list {
			other := append([]impl.Share{}, list...)
			other[i].X = 200
			checkNoSums(t, list, other)
		}
		if count > 1 {
			checkNoSums(t, list, reversed(list))
		}
	}
}

func TestP69SecretsAreAddedWithoutOpeningThem(t *testing.T) {
	eachShares(func(a []impl.Share) {
		if !isToldFor(a) {
			return
		}
		for _, coefs := range [][]int{nil, {0}, {250}, {9, 0, 100, 31}, times(impl.MaxFew, 250)} {
			b := impl.DealShares(coefs, placesOf(a))
			got := impl.OpenSecret(impl.AddShares(a, b))
			if want := (impl.OpenSecret(a) + impl.OpenSecret(b)) % impl.Prime; got != want {
				t.Errorf("OpenSecret(AddShares(%v, %v)) = %d, not %d", a, b, got, want)
			}
		}
	})
}

// placesOf returns the places of shares.
func placesOf(list []impl.Share) []int {
	var xs []int
	for _, one := range list {
		xs = append(xs, one.X)
	}
	return xs
}

// someMore returns numbers with which shares are refreshed.
func someMore() [][]int {
	return [][]int{nil, {0}, {5}, {250}, {0, 1}, {1, 0}, {200, 100, 50}, {0, 0, 0, 0, 9}, {1, 2, 3, 4, 5, 6, 7}, times(impl.MaxFew-1, 0), times(impl.MaxFew-1, 250)}
}

func TestRefreshShares(t *testing.T) {
	cases := []struct {
		xs   []int
		ys   []int
		more []int
		want []int
	}{
		{[]int{1, 2}, []int{10, 13}, []int{5}, []int{15, 23}},
		{[]int{1, 2}, []int{10, 13}, nil, []int{10, 13}},
		{[]int{1, 2}, []int{10, 13}, []int{0, 1}, []int{11, 17}},
		{[]int{2, 1}, []int{250, 250}, []int{250, 250, 250}, []int{236, 247}},
		{[]int{250}, []int{0}, []int{1, 1, 1, 1, 1, 1, 1}, []int{250}},
		{nil, nil, []int{5}, nil},
		{nil, nil, nil, nil},
		{placesFrom(impl.MaxMembers, 1, 1), upTo(impl.MaxMembers), []int{250}, times(impl.MaxMembers, 250)},
	}
	for _, c := range cases {
		if got := impl.RefreshShares(sharesOf(c.xs, c.ys...), c.more); !equal(got, sharesOf(c.xs, c.want...)) {
			t.Errorf("RefreshShares at %v of %v by %v = %v, not %v", c.xs, c.ys, c.more, got, c.want)
		}
	}
}

func TestRefreshSharesOfOtherArguments(t *testing.T) {
	bad := [][]int{times(impl.MaxFew, 0), times(impl.MaxFew, 250), upTo(impl.MaxFew + 1), upTo(100)}
	for _, n := range badRests() {
		bad = append(bad, []int{n}, []int{n, 1}, []int{1, n}, append(times(impl.MaxFew-2, 1), n), append([]int{n}, times(impl.MaxFew-2, 0)...))
	}
	eachShares(func(list []impl.Share) {
		for _, more := range bad {
			if got := impl.RefreshShares(list, more); len(got) != 0 {
				t.Errorf("RefreshShares(%v, %v) = %v", list, more, got)
			}
		}
	})
	for _, list := range badShares() {
		for _, more := range append(someMore(), bad...) {
			if got := impl.RefreshShares(list, more); len(got) != 0 {
				t.Errorf("RefreshShares(%v, %v) = %v", list, more, got)
			}
		}
	}
}

func TestRefreshSharesAddsShareOf0(t *testing.T) {
	eachShares(func(list []impl.Share) {
		for _, more := range someMore() {
			var want []impl.Share
			for _, one := range list {
				want = append(want, share(one.X, (one.Y+one.X*impl.PolyAt(more, one.X))%251))
			}
			if got := impl.RefreshShares(list, more); !equal(got, want) {
				t.Errorf("RefreshShares(%v, %v) = %v, not %v", list, more, got, want)
			}
		}
	})
}

func TestP70FreshSharesAreOfTheSameSecret(t *testing.T) {
	eachShares(func(list []impl.Share) {
		for _, more := range someMore() {
			if !isToldFor(list) || len(list) <= len(more) {
				continue
			}
			if fresh := impl.RefreshShares(list, more); impl.OpenSecret(fresh) != impl.OpenSecret(list) {
				t.Errorf("OpenSecret(%v) = %d, and of %v, refreshed by %v, %d", list, impl.OpenSecret(list), fresh, more, impl.OpenSecret(fresh))
			}
		}
	})
}

func TestPolyWith(t *testing.T) {
	cases := []struct {
		list   []impl.Share
		secret int
		want   []int
	}{
		{nil, 9, []int{9}},
		{nil, 0, []int{0}},
		{nil, 250, []int{250}},
		{[]impl.Share{share(1, 10)}, 0, []int{0, 10}},
		{[]impl.Share{share(1, 10)}, 7, []int{7, 3}},
		{[]impl.Share{share(1, 10)}, 10, []int{10, 0}},
		{[]impl.Share{share(2, 1)}, 250, []int{250, 1}},
		{[]impl.Share{share(1, 10), share(2, 13)}, 7, []int{7, 3, 0}},
		{[]impl.Share{share(2, 13), share(1, 10)}, 8, []int{8, 127, 126}},
		{sharesOf(placesFrom(impl.MaxFew-1, 1, 1), 1, 8, 27, 64, 125, 216, 92), 0, []int{0, 0, 0, 1, 0, 0, 0, 0}},
		{sharesOf(placesFrom(impl.MaxFew-1, 1, 1), times(impl.MaxFew-1, 4)...), 4, append([]int{4}, times(impl.MaxFew-1, 0)...)},
	}
	for _, c := range cases {
		if got := impl.PolyWith(c.list, c.secret); !equal(got, c.want) {
			t.Errorf("PolyWith(%v, %d) = %v, not %v", c.list, c.secret, got, c.want)
		}
	}
}

func TestPolyWithOtherArguments(t *testing.T) {
	eachShares(func(list []impl.Share) {
		secrets := badRests()
		if len(list) >= impl.MaxFew {
			secrets = append(secrets, someRests()...)
		}
		for _, secret := range secrets {
			if got := impl.PolyWith(list, secret); len(got) != 0 {
				t.Errorf("PolyWith(%v, %d) = %v", list, secret, got)
			}
		}
	})
	for _, list := range badShares() {
		for _, secret := range []int{-1, 0, 7, 250, 251} {
			if got := impl.PolyWith(list, secret); len(got) != 0 {
				t.Errorf("PolyWith(%v, %d) = %v", list, secret, got)
			}
		}
	}
}

func TestP71TooFewSharesTellNothing(t *testing.T) {
	eachShares(func(list []impl.Share) {
		if len(list) >= impl.MaxFew {
			return
		}
		for _, secret := range []int{0, 1, 100, 249, 250} {
			coefs := impl.PolyWith(list, secret)
			if len(coefs) != len(list)+1 || impl.PolyAt(coefs, 0) != secret || !equal(impl.DealShares(coefs, placesOf(list)), list) {
				t.Errorf("PolyWith(%v, %d) = %v", list, secret, coefs)
			}
		}
	})
}
