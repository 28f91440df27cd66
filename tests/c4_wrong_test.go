package tests

import (
	"testing"

	"loop.example/savingsclub/impl"
)

// badNeeds returns needs for which shares do not fit together, and none is wrong.
func badNeeds() []int {
	return []int{0, -1, -impl.MaxFew, minInt, impl.MaxFew + 1, impl.MaxMembers, 1 << 62, maxInt - 1, maxInt}
}

// fits reports whether each share is on the polynomial through the need shares before it.
func fits(list []impl.Share, need int) bool {
	for i := need; i < len(list); i++ {
		if valueThrough(list[i-need:i], list[i].X) != list[i].Y {
			return false
		}
	}
	return true
}

// eachNearlyFitting calls check for shares of polynomials with need coefficients, of which none, one or two are changed.
func eachNearlyFitting(check func(list []impl.Share, need int)) {
	for need := 1; need <= impl.MaxFew; need++ {
		for count := 0; count <= impl.MaxMembers; count++ {
			for by := 0; by < 3; by++ {
				var coefs []int
				for i := 0; i < need; i++ {
					coefs = append(coefs, (by*by*97+i*by*59+count*i)%251)
				}
				list := impl.DealShares(coefs, placesFrom(count, 1+by*100, 1+by*26))
				check(list, need)
				for i := range list {
					check(changed(list, i, 1+by*124), need)
					check(changed(changed(list, i, 250), (i+1+by)%count, 3+by), need)
				}
			}
		}
	}
}

func TestFitTogether(t *testing.T) {
	line := impl.DealShares([]int{7, 3}, placesFrom(impl.MaxMembers, 1, 1))
	same := sharesOf(placesFrom(impl.MaxMembers, 239, 7), times(impl.MaxMembers, 250)...)
	cases := []struct {
		list []impl.Share
		need int
		want bool
	}{
		{nil, 1, true}, {nil, impl.MaxFew, true}, {nil, 0, false}, {line[:1], 1, true}, {line[:2], 1, false}, {line[:2], 2, true},
		{line[:3], 1, false}, {line[:3], 2, true}, {line[:3], impl.MaxFew, true}, {line, 2, true}, {line, impl.MaxFew, true}, {line, 1, false},
		{same, 1, true}, {same, impl.MaxFew, true}, {changed(same, 11, 1), 1, false}, {changed(same, 0, 1), impl.MaxFew, false},
		{changed(line[:3], 1, 1), 2, false}, {changed(line[:3], 1, 1), 3, true}, {changed(line[:4], 3, 250), 3, false},
		{changed(line[:impl.MaxFew], 7, 1), impl.MaxFew, true}, {changed(line[:impl.MaxFew], 7, 1), impl.MaxFew - 1, false},
		{changed(line[:impl.MaxFew+1], 8, 1), impl.MaxFew, false}, {changed(line, 11, 1), impl.MaxFew, false}, {line, impl.MaxFew + 1, false},
	}
	for _, c := range cases {
		if got := impl.FitTogether(c.list, c.need); got != c.want {
			t.Errorf("FitTogether(%v, %d) = %v", c.list, c.need, got)
		}
	}
}

func TestFitTogetherIsOnePolynomial(t *testing.T) {
	eachNearlyFitting(func(list []impl.Share, need int) {
		if got := impl.FitTogether(list, need); got != fits(list, need) {
			t.Errorf("FitTogether(%v, %d) = %v", list, need, got)
		}
	})
	eachShares(func(list []impl.Share) {
		for need := 1; need <= impl.MaxFew; need++ {
			if got := impl.FitTogether(list, need); got != fits(list, need) {
				t.Errorf("FitTogether(%v, %d) = %v", list, need, got)
			}
		}
	})
}

func TestFitTogetherIsPolyThrough(t *testing.T) {
	eachShares(func(list []impl.Share) {
		coefs := impl.PolyThrough(list)
		for need := 1; need < len(coefs); need++ {
			if got, want := impl.FitTogether(list, need), sumOf(coefs[need:]) == 0; got != want {
				t.Errorf("FitTogether(%v, %d) = %v, but the polynomial is %v", list, need, got, coefs)
			}
		}
	})
}

// checkNoFit fails if shares fit together, or one of them is wrong.
func checkNoFit(t *testing.T, list []impl.Share, need int) {
	t.Helper()
	if impl.FitTogether(list, need) {
		t.Errorf("FitTogether(%v, %d) is true", list, need)
	}
	if got := impl.WrongShare(list, need); got != -1 {
		t.Errorf("WrongShare(%v, %d) = %d", list, need, got)
	}
}

func TestFitTogetherAndWrongShareOfOtherArguments(t *testing.T) {
	for _, list := range badShares() {
		for need := -1; need <= impl.MaxFew+1; need++ {
			checkNoFit(t, list, need)
		}
	}
	eachShares(func(list []impl.Share) {
		for _, need := range badNeeds() {
			checkNoFit(t, list, need)
		}
	})
}

// Here all shares but the one that is not valid fit together, or would do so if there were fewer.
func TestAShareThatIsNotValidIsNotWrong(t *testing.T) {
	for count := 1; count <= impl.MaxMembers; count++ {
		for i := 0; i < count; i++ {
			list := impl.DealShares([]int{7, 3}, placesFrom(count, 1, 1))
			list[i].Y += 251
			checkNoFit(t, list, 2)
			list[i] = share(0, 7)
			checkNoFit(t, list, 2)
			list[i] = share(251, 7)
			checkNoFit(t, list, 2)
		}
	}
	many := impl.DealShares([]int{7}, placesFrom(impl.MaxMembers, 1, 1))
	checkNoFit(t, append(many, share(200, 7)), 1)
	checkNoFit(t, append(many, share(200, 8)), 1)
	checkNoFit(t, append(many, share(1, 7)), 1)
	checkNoFit(t, append(many, share(1, 8)), 1)
}

func TestWrongShare(t *testing.T) {
	line := impl.DealShares([]int{7, 3}, placesFrom(impl.MaxMembers, 1, 1))
	cases := []struct {
		list []impl.Share
		need int
		want int
	}{
		{nil, 1, -1}, {line[:1], 1, -1}, {line[:2], 1, -1}, {line[:3], 1, -1}, {line, 2, -1}, {line, impl.MaxFew, -1},
		{changed(line[:4], 2, 4), 2, 2}, {changed(line[:3], 2, 4), 2, -1}, {changed(line[:4], 0, 1), 2, 0}, {changed(line[:4], 3, 250), 2, 3},
		{changed(line[:4], 2, 4), 1, -1}, {changed(line[:4], 2, 4), 3, -1}, {changed(line[:5], 2, 4), 3, 2}, {changed(line, 11, 1), 2, 11},
		{changed(line[:10], 9, 1), impl.MaxFew, 9}, {changed(line[:10], 0, 1), impl.MaxFew, 0}, {changed(line[:9], 0, 1), impl.MaxFew, -1},
		{changed(line[:9], 0, 1), impl.MaxFew - 1, 0}, {changed(line, 4, 1), impl.MaxFew, 4}, {changed(changed(line, 4, 1), 5, 1), 2, -1},
		{changed(changed(line[:4], 0, 1), 1, 1), 2, -1}, {changed(changed(line[:5], 0, 1), 4, 2), 2, -1},
		{sharesOf(placesFrom(3, 1, 1), 5, 6, 6), 1, 0}, {sharesOf(placesFrom(3, 1, 1), 6, 5, 6), 1, 1}, {sharesOf(placesFrom(3, 1, 1), 6, 6, 5), 1, 2},
		{sharesOf(placesFrom(3, 1, 1), 5, 6, 7), 1, -1}, {sharesOf(placesFrom(2, 1, 1), 5, 6), 1, -1}, {sharesOf(placesFrom(4, 1, 1), 5, 5, 6, 6), 1, -1},
		{sharesOf(placesFrom(3, 1, 1), 0, 0, 0), 1, -1}, {sharesOf(placesFrom(3, 1, 1), 0, 0, 250), 1, 2},
	}
	for _, c := range cases {
		if got := impl.WrongShare(c.list, c.need); got != c.want {
			t.Errorf("WrongShare(%v, %d) = %d, not %d", c.list, c.need, got, c.want)
		}
	}
}

func TestWrongShareIsTheOneThatDoesNotFit(t *testing.T) {
	eachNearlyFitting(func(list []impl.Share, need int) {
		want := -1
		for i := range list {
			if len(list) >= need+2 && !fits(list, need) && fits(without(list, i), need) {
				want = i
			}
		}
		if got := impl.WrongShare(list, need); got != want {
			t.Errorf("WrongShare(%v, %d) = %d, not %d", list, need, got, want)
		}
	})
}

func TestP66SharesThatFitFitInParts(t *testing.T) {
	found := 0
	check := func(list []impl.Share, need int) {
		if !impl.FitTogether(list, need) {
			return
		}
		found++
		for i := range list {
			if !impl.FitTogether(without(list, i), need) {
				t.Errorf("%v does not fit together by %d without share %d", list, need, i)
			}
		}
		if need < impl.MaxFew && !impl.FitTogether(list, need+1) {
			t.Errorf("%v does not fit together by %d", list, need+1)
		}
	}
	eachNearlyFitting(check)
	eachShares(func(list []impl.Share) {
		for need := 1; need <= impl.MaxFew; need++ {
			check(list, need)
		}
	})
	if found < 1000 {
		t.Errorf("only %d lists of shares fit together", found)
	}
}

func TestP67OneWrongShareIsFound(t *testing.T) {
	found := 0
	eachNearlyFitting(func(list []impl.Share, need int) {
		wrong := impl.WrongShare(list, need)
		if wrong < 0 {
			return
		}
		found++
		if impl.FitTogether(list, need) {
			t.Errorf("WrongShare(%v, %d) = %d, but all fit together", list, need, wrong)
		}
		for i := range list {
			if got := impl.FitTogether(without(list, i), need); got != (i == wrong) {
				t.Errorf("WrongShare(%v, %d) = %d, but FitTogether without %d is %v", list, need, wrong, i, got)
			}
		}
	})
	if found < 1000 {
		t.Errorf("only %d lists have a wrong share", found)
	}
}

func TestP68WhoeverChangesAShareIsFound(t *testing.T) {
	eachDeal(func(coefs []int, xs []int) {
		list := impl.DealShares(coefs, xs)
		for i := range list {
			for _, need := range []int{len(coefs), len(coefs) + 1} {
				if need < 1 || need > impl.MaxFew || len(list) < need+2 {
					continue
				}
				for _, more := range []int{1, 100, 250} {
					if got := impl.WrongShare(changed(list, i, more), need); got != i {
						t.Errorf("WrongShare(%v, %d) = %d, not %d", changed(list, i, more), need, got, i)
					}
				}
			}
		}
	})
}
