package tests

import (
	"testing"

	"loop.example/savingsclub/impl"
)

// roomyShares returns shares with one behind them that nobody may write over.
func roomyShares(list []impl.Share) []impl.Share {
	all := append(append([]impl.Share{}, list...), share(-99, -99))
	return all[:len(list)]
}

// areSharesAsBefore reports whether shares made by roomyShares are still the same, and the one behind them, too.
func areSharesAsBefore(given []impl.Share, list []impl.Share) bool {
	return equal(given[:len(list)+1], append(append([]impl.Share{}, list...), share(-99, -99)))
}

// spoilShares writes into shares and into the room behind them.
func spoilShares(list []impl.Share) {
	list = list[:cap(list)]
	for i := range list {
		list[i] = share(-7, -7)
	}
}

// roomyLock returns a lock of new memory, with room behind all its lists in which nobody may write.
func roomyLock(l impl.Lock) impl.Lock {
	kids := make([]impl.Lock, 0, len(l.Kids)+1)
	for _, kid := range l.Kids {
		kids = append(kids, roomyLock(kid))
	}
	kids = append(kids, lock(-99, []int{-99}))
	return lock(l.Need, roomy(l.Members...), kids[:len(l.Kids)]...)
}

// isLockAsBefore reports whether a lock made by roomyLock is still the same, and the room behind its lists, too.
func isLockAsBefore(given impl.Lock, l impl.Lock) bool {
	if given.Need != l.Need || len(given.Kids) != len(l.Kids) || len(given.Members) != len(l.Members) || !isAsBefore(given.Members, l.Members...) {
		return false
	}
	for i, kid := range l.Kids {
		if !isLockAsBefore(given.Kids[i], kid) {
			return false
		}
	}
	behind := given.Kids[:len(l.Kids)+1][len(l.Kids)]
	return behind.Need == -99 && equal(behind.Members, []int{-99}) && len(behind.Kids) == 0
}

func TestPolynomialsAndPlacesAreAsBefore(t *testing.T) {
	for _, before := range append(someCoefs(), badCoefs()...) {
		for _, at := range append(somePlaces(), badPlaces()...) {
			coefs := roomy(before...)
			xs := roomy(at...)
			impl.PolyAt(coefs, 2)
			spoilShares(impl.DealShares(coefs, xs))
			if !isAsBefore(coefs, before...) || !isAsBefore(xs, at...) {
				t.Errorf("%v and %v became %v and %v", before, at, coefs, xs)
			}
		}
	}
}

// callAllOnShares calls all functions of shares, and writes into their answers.
func callAllOnShares(list []impl.Share, more []int) {
	impl.ValidShares(list)
	spoil(impl.PolyThrough(list))
	impl.OpenSecret(list)
	spoil(impl.PolyWith(list, 7))
	spoilShares(impl.AddShares(list, list))
	spoilShares(impl.RefreshShares(list, more))
	for need := 0; need <= impl.MaxFew; need++ {
		impl.FitTogether(list, need)
		impl.WrongShare(list, need)
	}
}

func TestSharesAreAsBefore(t *testing.T) {
	check := func(before []impl.Share) {
		for _, numbers := range append(someMore(), []int{-1}, times(impl.MaxFew, 1)) {
			list := roomyShares(before)
			more := roomy(numbers...)
			callAllOnShares(list, more)
			if !areSharesAsBefore(list, before) || !isAsBefore(more, numbers...) {
				t.Errorf("%v and %v became %v and %v", before, numbers, list, more)
			}
		}
	}
	for _, xs := range somePlaces() {
		list := impl.DealShares([]int{7, 3}, xs)
		check(list)
		if len(list) > 0 {
			check(changed(list, len(list)/2, 1))
		}
	}
	for _, list := range badShares() {
		check(list)
	}
}

func TestBothAddedSharesAreAsBefore(t *testing.T) {
	for count := 0; count <= impl.MaxMembers; count++ {
		first := impl.DealShares([]int{7, 3}, placesFrom(count, 1, 1))
		for _, second := range [][]impl.Share{impl.DealShares([]int{250, 1, 9}, placesFrom(count, 1, 1)), nil, impl.DealShares([]int{1}, placesFrom(count, 2, 1))} {
			a := roomyShares(first)
			b := roomyShares(second)
			spoilShares(impl.AddShares(a, b))
			spoilShares(impl.AddShares(b, a))
			if !areSharesAsBefore(a, first) || !areSharesAsBefore(b, second) {
				t.Errorf("%v and %v became %v and %v", first, second, a, b)
			}
		}
	}
}

func TestLocksAreAsBefore(t *testing.T) {
	check := func(before impl.Lock, dealt []int, some []int) {
		l := roomyLock(before)
		values := roomy(dealt...)
		members := roomy(some...)
		impl.ValidLock(l)
		impl.Opens(l, members)
		for _, list := range impl.LeastOpeners(l) {
			spoil(list)
		}
		spoil(impl.DealLock(l, 7, 3))
		impl.OpenLock(l, values, members)
		if !isLockAsBefore(l, before) || !isAsBefore(values, dealt...) || !isAsBefore(members, some...) {
			t.Errorf("%v, %v and %v became %v, %v and %v", before, dealt, some, l, values, members)
		}
	}
	eachLock(func(l impl.Lock) {
		for _, members := range append(badMemberLists(), nil, []int{7, 0, 3}, reversed(upTo(impl.MaxFew))) {
			check(l, impl.DealLock(l, 7, 3), members)
		}
		check(l, nil, upTo(impl.MaxFew))
	})
	for _, l := range badLocks() {
		check(l, times(membersIn(l), 5), []int{0, 1})
	}
}

func TestNumbersOfKeysAreNewMemory(t *testing.T) {
	list := roomyShares(impl.DealShares([]int{7, 3}, []int{1, 2, 3}))
	one := lock(1, roomy(5))
	two := roomyLock(lock(2, []int{0, 1}, lock(1, []int{2, 3})))
	checkNewMemory(t, func() [][]int {
		answers := [][]int{
			impl.PolyThrough(list), impl.PolyThrough(list[:1]), impl.PolyWith(list, 9), impl.PolyWith(nil, 9), impl.PolyWith(list[:1], 0),
			impl.DealLock(two, 7, 0), impl.DealLock(one, 7, 0), impl.LeastOpeners(one)[0],
		}
		return append(answers, impl.LeastOpeners(two)...)
	})
	if !areSharesAsBefore(list, impl.DealShares([]int{7, 3}, []int{1, 2, 3})) || !isAsBefore(one.Members, 5) {
		t.Errorf("an answer is the memory of %v or %v", list, one.Members)
	}
}

func TestOpenersShareNoMemory(t *testing.T) {
	eachLock(func(l impl.Lock) {
		checkListsShareNoMemory(t, func() [][]int { return impl.LeastOpeners(l) })
	})
}

func TestSharesAreNewMemory(t *testing.T) {
	xs := []int{1, 2, 3}
	list := impl.DealShares([]int{7, 3}, xs)
	zeros := impl.DealShares(nil, xs)
	answers := func() [][]impl.Share {
		return [][]impl.Share{
			impl.DealShares([]int{7, 3}, xs), impl.DealShares(nil, xs), impl.AddShares(list, list), impl.AddShares(list, zeros), impl.AddShares(zeros, list),
			impl.RefreshShares(list, nil), impl.RefreshShares(list, []int{0}), impl.RefreshShares(list, []int{5, 6}),
		}
	}
	first := answers()
	second := answers()
	for i := range first {
		want := append([]impl.Share{}, first[i]...)
		spoilShares(first[i])
		if third := answers()[i]; len(want) == 0 || !equal(second[i], want) || !equal(third, want) {
			t.Errorf("answer %d is %v, and then %v and %v", i, want, second[i], third)
		}
	}
	if !equal(list, sharesOf(xs, 10, 13, 16)) || !equal(zeros, sharesOf(xs, 0, 0, 0)) {
		t.Errorf("an answer is the memory of %v or %v", list, zeros)
	}
}
