package tests

import (
	"testing"

	"loop.example/savingsclub/impl"
)

// dealtInTurn returns the values of a lock and of all locks in it, which take their numbers one after the other.
func dealtInTurn(l impl.Lock, secret int, seed int, number *int) []int {
	coefs := []int{secret}
	for k := 1; k < l.Need; k++ {
		coefs = append(coefs, (seed*seed*(*number+1)+97*k+31**number)%251)
	}
	*number++
	var values []int
	x := 0
	for range l.Members {
		x++
		values = append(values, valueByPowers(coefs, x))
	}
	for _, kid := range l.Kids {
		x++
		values = append(values, dealtInTurn(kid, valueByPowers(coefs, x), seed, number)...)
	}
	return values
}

// foundInTurn returns the secret of a lock that members find with values, or -1, and the values that are not those of the lock.
func foundInTurn(l impl.Lock, values []int, members []int) (int, []int) {
	var list []impl.Share
	for i, member := range l.Members {
		if contains(members, member) {
			list = append(list, share(i+1, values[i]))
		}
	}
	values = values[len(l.Members):]
	for i, kid := range l.Kids {
		secret, others := foundInTurn(kid, values, members)
		if secret >= 0 {
			list = append(list, share(len(l.Members)+i+1, secret))
		}
		values = others
	}
	if len(list) < l.Need {
		return -1, values
	}
	return valueThrough(list[:l.Need], 0), values
}

// otherValues returns valid values of a lock that need not fit together.
func otherValues(l impl.Lock, by int) []int {
	var values []int
	for i := 0; i < membersIn(l); i++ {
		values = append(values, (by*113+i*i*by+i*71)%251)
	}
	return values
}

func TestDealLock(t *testing.T) {
	two := lock(2, []int{0, 1}, lock(1, []int{2, 3}))
	deep := lock(1, nil, lock(1, nil, lock(2, []int{0, 1})), lock(2, []int{2, 3}))
	cases := []struct {
		l      impl.Lock
		secret int
		seed   int
		want   []int
	}{
		{two, 7, 0, []int{104, 201, 47, 47}},
		{two, 7, 1, []int{105, 203, 50, 50}},
		{two, 7, 2, []int{108, 209, 59, 59}},
		{two, 7, 249, []int{108, 209, 59, 59}},
		{two, 7, 250, []int{105, 203, 50, 50}},
		{two, 250, 0, []int{96, 193, 39, 39}},
		{lock(1, []int{5}), 0, 250, []int{0}},
		{lock(1, []int{5, 4, 3}), 250, 9, []int{250, 250, 250}},
		{lock(3, []int{0, 1, 2}), 5, 0, []int{45, 222, 34}},
		{lock(1, []int{0}, lock(2, []int{1, 2})), 10, 2, []int{10, 146, 31}},
		{deep, 0, 1, []int{162, 73, 194, 137}},
		{chain(impl.MaxLocks, 2), 99, 100, times(impl.MaxLocks, 99)},
	}
	for _, c := range cases {
		if got := impl.DealLock(c.l, c.secret, c.seed); !equal(got, c.want) {
			t.Errorf("DealLock(%v, %d, %d) = %v, not %v", c.l, c.secret, c.seed, got, c.want)
		}
	}
}

func TestDealLockIsInTurn(t *testing.T) {
	eachLock(func(l impl.Lock) {
		for _, seed := range []int{0, 1, 16, 250} {
			for _, secret := range []int{0, 7, 250} {
				number := 0
				want := dealtInTurn(l, secret, seed, &number)
				if got := impl.DealLock(l, secret, seed); !equal(got, want) {
					t.Errorf("DealLock(%v, %d, %d) = %v, not %v", l, secret, seed, got, want)
				}
			}
		}
	})
}

func TestDealLockOfOtherArguments(t *testing.T) {
	eachLock(func(l impl.Lock) {
		for _, bad := range badRests() {
			for _, rest := range append(someRests(), bad) {
				if len(impl.DealLock(l, bad, rest)) != 0 || len(impl.DealLock(l, rest, bad)) != 0 {
					t.Errorf("DealLock(%v, %d, %d) has values, or the other way round", l, bad, rest)
				}
			}
		}
	})
}

func TestOpenLock(t *testing.T) {
	two := lock(2, []int{0, 1}, lock(1, []int{2, 3}))
	deep := lock(1, nil, lock(1, nil, lock(2, []int{0, 1})), lock(2, []int{2, 3}))
	dealt := []int{104, 201, 47, 47}
	cases := []struct {
		l       impl.Lock
		values  []int
		members []int
		want    int
	}{
		{two, dealt, []int{0, 3}, 7}, {two, dealt, []int{3, 2, 1}, 7}, {two, dealt, []int{0, 1}, 7}, {two, dealt, upTo(impl.MaxFew), 7}, {two, dealt, []int{0, 2, 7, 6}, 7},
		{two, dealt, []int{2, 3}, -1}, {two, dealt, []int{1}, -1}, {two, dealt, []int{7}, -1}, {two, dealt, nil, -1}, {two, dealt, []int{0, 1, 1}, -1},
		{two, dealt[:3], []int{0, 1}, -1}, {two, append(dealt, 0), []int{0, 1}, -1}, {two, nil, []int{0, 1}, -1},
		{deep, []int{162, 73, 194, 137}, []int{0, 1}, 0}, {deep, []int{162, 73, 194, 137}, []int{3, 2}, 0}, {deep, []int{162, 73, 194, 137}, []int{1, 2}, -1},
		{lock(1, []int{4}), []int{250}, []int{4}, 250}, {lock(1, []int{4}), []int{0}, []int{4}, 0}, {chain(impl.MaxLocks, 2), times(impl.MaxLocks, 99), []int{2}, 99},
	}
	for _, c := range cases {
		if got := impl.OpenLock(c.l, c.values, c.members); got != c.want {
			t.Errorf("OpenLock(%v, %v, %v) = %d, not %d", c.l, c.values, c.members, got, c.want)
		}
	}
}

// These values do not fit together, so that each choice of shares finds another secret.
func TestOpenLockTakesTheFirstShares(t *testing.T) {
	one := lock(1, []int{3, 1})
	line := lock(2, []int{0, 1, 2})
	mixedUp := lock(1, []int{0}, lock(1, []int{1}), lock(1, []int{2}))
	cases := []struct {
		l       impl.Lock
		values  []int
		members []int
		want    int
	}{
		{one, []int{5, 9}, []int{1, 3}, 5}, {one, []int{5, 9}, []int{3, 1}, 5}, {one, []int{5, 9}, []int{1}, 9},
		{line, []int{10, 13, 20}, []int{2, 1, 0}, 7}, {line, []int{10, 13, 20}, []int{0, 2}, 5}, {line, []int{10, 13, 20}, []int{2, 1}, 250},
		{mixedUp, []int{5, 9, 11}, []int{2, 1, 0}, 5}, {mixedUp, []int{5, 9, 11}, []int{2, 1}, 9}, {mixedUp, []int{5, 9, 11}, []int{2}, 11},
		{lock(2, []int{0}, mixedUp, one), []int{10, 13, 1, 2, 20, 21}, []int{0, 3}, 7}, {lock(2, []int{7}, mixedUp, one), []int{10, 13, 1, 2, 20, 21}, []int{0, 3}, 250},
		{lock(2, []int{7}, mixedUp, one), []int{10, 13, 1, 2, 20, 21}, []int{1, 7}, 19},
	}
	for _, c := range cases {
		if got := impl.OpenLock(c.l, c.values, c.members); got != c.want {
			t.Errorf("OpenLock(%v, %v, %v) = %d, not %d", c.l, c.values, c.members, got, c.want)
		}
	}
}

func TestOpenLockIsInTurn(t *testing.T) {
	eachLock(func(l impl.Lock) {
		for by := 0; by < 2; by++ {
			values := otherValues(l, by)
			for _, members := range subsets(impl.MaxFew) {
				want, _ := foundInTurn(l, values, members)
				if got, back := impl.OpenLock(l, values, members), impl.OpenLock(l, values, reversed(members)); got != want || back != want {
					t.Errorf("OpenLock(%v, %v, %v) = %d, and in reverse order %d, not %d", l, values, members, got, back, want)
				}
			}
		}
	})
}

func TestOpenLockOfOtherValues(t *testing.T) {
	eachLock(func(l impl.Lock) {
		values := impl.DealLock(l, 7, 3)
		openers := impl.LeastOpeners(l)
		check := func(other []int) {
			for _, members := range [][]int{nil, {0}, openers[0], upTo(impl.MaxFew)} {
				if got := impl.OpenLock(l, other, members); got != -1 {
					t.Errorf("OpenLock(%v, %v, %v) = %d", l, other, members, got)
				}
			}
		}
		check(nil)
		check(values[1:])
		check(append([]int{}, values[:len(values)-1]...))
		check(append([]int{0}, values...))
		check(append(append([]int{}, values...), 250))
		check(append(append([]int{}, values...), values...))
		for i := range values {
			for _, bad := range badRests() {
				other := append([]int{}, values...)
				other[i] = bad
				check(other)
			}
		}
	})
}

func TestP76LocksOpenWithTheirValues(t *testing.T) {
	eachLock(func(l impl.Lock) {
		openers := append(impl.LeastOpeners(l), upTo(impl.MaxFew))
		for seed := 0; seed < impl.Prime; seed += 25 {
			for _, secret := range []int{0, 7, 250} {
				values := impl.DealLock(l, secret, seed)
				for _, members := range openers {
					if got := impl.OpenLock(l, values, members); len(values) == 0 || got != secret {
						t.Errorf("OpenLock(%v, %v, %v) = %d, not %d", l, values, members, got, secret)
					}
				}
			}
		}
	})
}

func TestWhoOpensALockFindsItsSecret(t *testing.T) {
	eachLock(func(l impl.Lock) {
		values := impl.DealLock(l, 100, 33)
		for _, members := range subsets(impl.MaxFew) {
			if got := impl.OpenLock(l, values, members); impl.Opens(l, members) && got != 100 {
				t.Errorf("OpenLock(%v, %v, %v) = %d", l, values, members, got)
			}
		}
	})
}

func TestP77WhoDoesNotOpenALockFindsNothing(t *testing.T) {
	eachLock(func(l impl.Lock) {
		for _, values := range [][]int{impl.DealLock(l, 0, 0), impl.DealLock(l, 250, 250), otherValues(l, 1)} {
			for _, members := range subsets(impl.MaxFew) {
				got := impl.OpenLock(l, values, members)
				if got < -1 || got >= impl.Prime || (got >= 0) != impl.Opens(l, members) {
					t.Errorf("OpenLock(%v, %v, %v) = %d, but Opens is %v", l, values, members, got, impl.Opens(l, members))
				}
			}
		}
	})
}
