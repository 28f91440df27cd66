package tests

import (
	"fmt"
	"testing"

	"loop.example/savingsclub/impl"
)

// lock returns a lock.
func lock(need int, members []int, kids ...impl.Lock) impl.Lock {
	return impl.Lock{Need: need, Members: members, Kids: kids}
}

// chain returns a lock in a lock in a lock, and so on, each with a member and a Need of 1.
func chain(count int, member int) impl.Lock {
	l := lock(1, []int{member})
	for i := 1; i < count; i++ {
		l = lock(1, []int{member}, l)
	}
	return l
}

// fullLock returns a lock with MaxLocks locks in all, whose last kid is told.
func fullLock(need int, last impl.Lock) impl.Lock {
	two := lock(2, []int{1}, lock(1, []int{6, 2}))
	kids := append(times(3, two), times(4, lock(1, []int{3}))...)
	return lock(need, nil, append(kids, last)...)
}

// grow returns a lock for whose locks there is room, told by numbers that roll returns.
func grow(roll func(count int) int, room *int) impl.Lock {
	*room--
	var l impl.Lock
	for kids := roll(4); kids > 0 && *room > 0; kids-- {
		l.Kids = append(l.Kids, grow(roll, room))
	}
	members := mixed(impl.MaxFew, roll(50))
	l.Members = members[:roll(impl.MaxFew-2)]
	if len(l.Members)+len(l.Kids) == 0 {
		l.Members = members[:1]
	}
	l.Need = 1 + roll(len(l.Members)+len(l.Kids))
	return l
}

// grownLock returns the valid lock that grows from a number.
func grownLock(by int) impl.Lock {
	room := 1 + by%impl.MaxLocks
	return grow(dice(by), &room)
}

// someLocks returns valid locks: without Kids, without Members, locks in locks, as many as can be, and members in several of them.
func someLocks() []impl.Lock {
	some := lock(1, []int{2, 3})
	locks := []impl.Lock{
		lock(1, []int{0}), lock(1, []int{7}), lock(1, []int{1, 0}), lock(2, []int{0, 1}), lock(2, []int{2, 0, 1}), lock(3, []int{5, 7, 3}),
		lock(2, []int{0, 1}, some), lock(1, []int{0, 1}, some), lock(3, []int{0, 1}, some),
		lock(1, nil, some), lock(2, nil, some, some), lock(2, nil, some, lock(2, []int{3, 4})), lock(1, nil, some, lock(1, []int{0})),
		lock(2, []int{0}, lock(1, []int{0})), lock(3, []int{0, 1}, lock(2, []int{0, 1}), lock(1, []int{0})),
		lock(2, []int{0}, lock(2, []int{1}, lock(2, []int{2, 3}), lock(1, []int{4}))), lock(1, nil, lock(1, nil, lock(1, nil, some))),
		lock(impl.MaxFew, upTo(7), some), lock(1, upTo(7), some), lock(5, []int{6}, times(7, some)...),
		chain(2, 5), chain(impl.MaxLocks, 7), lock(2, []int{1}, chain(impl.MaxLocks-1, 0)),
	}
	for need := 1; need <= impl.MaxFew; need++ {
		locks = append(locks, lock(need, upTo(impl.MaxFew)), lock(need, nil, times(impl.MaxFew, some)...), fullLock(need, lock(1, []int{0})))
	}
	return locks
}

// eachLock calls check for valid locks.
func eachLock(check func(l impl.Lock)) {
	for _, l := range someLocks() {
		check(l)
	}
	for by := 0; by < 90; by++ {
		check(grownLock(by))
	}
}

// badAlone returns locks that are not valid, whatever the locks in them are.
func badAlone() []impl.Lock {
	some := lock(1, []int{2, 3})
	locks := []impl.Lock{
		{}, lock(1, nil), lock(-1, nil), lock(0, []int{0}), lock(2, []int{0}), lock(-1, []int{0}), lock(minInt, []int{0}), lock(maxInt, []int{0}),
		lock(0, []int{0, 1}, some), lock(4, []int{0, 1}, some), lock(2, nil, some), lock(0, nil, some), lock(impl.MaxFew+1, upTo(impl.MaxFew)),
		lock(1, []int{0, 0}), lock(2, []int{0, 0}), lock(1, []int{0, 1, 0}), lock(1, []int{7, 7}, some), lock(1, append(upTo(7), 6)), lock(1, upTo(impl.MaxFew+1)),
		lock(1, append(upTo(impl.MaxFew), 0)), lock(1, upTo(100)), lock(1, upTo(impl.MaxFew), some), lock(1, upTo(7), some, some), lock(1, nil, times(impl.MaxFew+1, some)...),
	}
	for _, bad := range []int{-1, minInt, impl.MaxFew, 63, 64, 65, maxInt} {
		locks = append(locks, lock(1, []int{bad}), lock(1, []int{0, bad}), lock(1, []int{bad, 0}), lock(1, []int{bad}, some), lock(1, append(upTo(7), bad)))
	}
	return locks
}

// badLocks returns locks that are not valid.
func badLocks() []impl.Lock {
	some := lock(1, []int{2, 3})
	locks := []impl.Lock{
		chain(impl.MaxLocks+1, 0), chain(100, 0), fullLock(1, chain(2, 0)), lock(1, []int{0}, fullLock(1, some)), lock(1, nil, some, chain(impl.MaxLocks-1, 0)),
		lock(1, nil, chain(impl.MaxLocks-1, 0), some), lock(1, nil, times(3, lock(1, nil, times(3, some)...))...), lock(1, nil, times(1000, some)...),
	}
	for _, bad := range badAlone() {
		locks = append(locks, bad, lock(1, []int{0}, bad), lock(1, nil, bad, some), lock(1, nil, some, bad), lock(1, []int{0}, lock(1, []int{1}, some, bad)), fullLock(1, bad))
	}
	return locks
}

// badMemberLists returns lists of members who cannot come to a lock.
func badMemberLists() [][]int {
	return [][]int{
		{-1}, {impl.MaxFew}, {minInt}, {maxInt}, {63}, {64}, {65}, {0, 0}, {7, 7}, {0, 1, 0}, {-1, 0}, {0, -1}, {0, impl.MaxFew}, {0, 64},
		upTo(impl.MaxFew + 1), append(upTo(impl.MaxFew), 0), append(upTo(impl.MaxFew), -1), append(upTo(impl.MaxFew), upTo(impl.MaxFew)...), upTo(1000), times(1000, 0),
	}
}

// membersIn returns how many Members a lock has with all locks in it, one of several locks counted for each of them.
func membersIn(l impl.Lock) int {
	count := len(l.Members)
	for _, kid := range l.Kids {
		count += membersIn(kid)
	}
	return count
}

// opensByLists reports whether members open a lock.
func opensByLists(l impl.Lock, members []int) bool {
	missing := l.Need
	for _, member := range l.Members {
		if contains(members, member) {
			missing--
		}
	}
	for _, kid := range l.Kids {
		if opensByLists(kid, members) {
			missing--
		}
	}
	return missing <= 0
}

// leastByLists returns all lists of members that open a lock, but not without any one of them.
func leastByLists(l impl.Lock) [][]int {
	var lists [][]int
	for _, members := range subsets(impl.MaxFew) {
		isLeast := opensByLists(l, members)
		for i := range members {
			isLeast = isLeast && !opensByLists(l, without(members, i))
		}
		if isLeast {
			lists = append(lists, members)
		}
	}
	return lists
}

func TestValidLock(t *testing.T) {
	if impl.MaxLocks != 12 {
		t.Errorf("MaxLocks is %d", impl.MaxLocks)
	}
	eachLock(func(l impl.Lock) {
		if !impl.ValidLock(l) {
			t.Errorf("ValidLock(%v) is false", l)
		}
	})
	for _, l := range badLocks() {
		if impl.ValidLock(l) {
			t.Errorf("ValidLock(%v) is true", l)
		}
	}
}

// checkNoLock fails if something is told of a lock that is not valid. The lock has a name, as one that is in itself cannot be shown.
func checkNoLock(t *testing.T, name string, l impl.Lock, values int) {
	t.Helper()
	if impl.ValidLock(l) || len(impl.LeastOpeners(l)) != 0 {
		t.Errorf("%s is valid, or has least openers", name)
	}
	for _, members := range [][]int{nil, {0}, {2, 3}, upTo(impl.MaxFew), {0, 0}, {impl.MaxFew}} {
		if impl.Opens(l, members) {
			t.Errorf("%v open %s", members, name)
		}
		for _, count := range []int{0, values - 1, values, values + 1} {
			if count >= 0 && impl.OpenLock(l, times(count, 5), members) != -1 {
				t.Errorf("%v find a secret in %s with %d values", members, name, count)
			}
		}
	}
	for _, rest := range []int{0, 7, 250} {
		if len(impl.DealLock(l, rest, 0)) != 0 || len(impl.DealLock(l, 0, rest)) != 0 {
			t.Errorf("%s has values", name)
		}
	}
}

func TestLocksThatAreNotValid(t *testing.T) {
	for _, l := range badLocks() {
		checkNoLock(t, fmt.Sprint(l), l, membersIn(l))
	}
}

func TestALockThatIsInItself(t *testing.T) {
	kids := make([]impl.Lock, 1)
	kids[0] = lock(1, []int{0}, kids...)
	checkNoLock(t, "a lock that is in itself", kids[0], 1)
	many := make([]impl.Lock, 8)
	for i := range many {
		many[i] = lock(1, nil, many...)
	}
	checkNoLock(t, "a lock of which each kid has all kids", many[3], 0)
	checkNoLock(t, "a lock with such a kid", lock(1, []int{1}, many[7]), 1)
	wide := make([]impl.Lock, 1000)
	for i := range wide {
		wide[i] = lock(1, nil, wide...)
	}
	checkNoLock(t, "a lock with many such kids", wide[0], 0)
}

func TestP72LocksCanBeEasier(t *testing.T) {
	eachLock(func(l impl.Lock) {
		if !impl.ValidLock(lock(1, l.Members, l.Kids...)) {
			t.Errorf("%v is not valid with Need 1", l)
		}
		for _, kid := range l.Kids {
			if !impl.ValidLock(kid) {
				t.Errorf("the kid %v of %v is not valid", kid, l)
			}
		}
	})
}

func TestOpens(t *testing.T) {
	two := lock(2, []int{0, 1}, lock(1, []int{2, 3}))
	deep := lock(2, []int{0}, lock(2, []int{1}, lock(2, []int{2, 3}), lock(1, []int{4})))
	twice := lock(2, []int{0}, lock(1, []int{0, 5}))
	cases := []struct {
		l       impl.Lock
		members []int
		want    bool
	}{
		{two, []int{0, 1}, true}, {two, []int{1, 0}, true}, {two, []int{2, 0}, true}, {two, []int{2, 3}, false}, {two, []int{0}, false}, {two, nil, false},
		{two, []int{0, 1, 2, 3}, true}, {two, []int{7, 1, 3}, true}, {two, []int{4, 5, 6, 7}, false}, {two, []int{4, 5, 6, 7, 0}, false}, {two, upTo(impl.MaxFew), true},
		{two, []int{0, 0, 1}, false}, {two, []int{0, 1, impl.MaxFew}, false}, {two, []int{0, 1, -1}, false},
		{deep, []int{0, 1, 4}, true}, {deep, []int{0, 2, 3, 1}, true}, {deep, []int{0, 2, 3, 4}, true}, {deep, []int{0, 1, 2}, false}, {deep, []int{1, 2, 3, 4}, false}, {deep, []int{0, 2, 4}, false},
		{twice, []int{0}, true}, {twice, []int{5}, false}, {twice, []int{0, 5}, true},
		{chain(impl.MaxLocks, 7), []int{7}, true}, {chain(impl.MaxLocks, 7), upTo(7), false},
		{lock(1, nil, lock(1, []int{3})), []int{3}, true}, {lock(1, nil, lock(1, []int{3})), []int{2}, false},
		{lock(impl.MaxFew, upTo(impl.MaxFew)), upTo(impl.MaxFew), true}, {lock(impl.MaxFew, upTo(impl.MaxFew)), upTo(7), false},
	}
	for _, c := range cases {
		if got := impl.Opens(c.l, c.members); got != c.want {
			t.Errorf("Opens(%v, %v) = %v", c.l, c.members, got)
		}
	}
}

func TestOpensIsByLists(t *testing.T) {
	eachLock(func(l impl.Lock) {
		for _, members := range subsets(impl.MaxFew) {
			want := opensByLists(l, members)
			if impl.Opens(l, members) != want || impl.Opens(l, reversed(members)) != want {
				t.Errorf("Opens(%v, %v) is not %v", l, members, want)
			}
		}
	})
}

func TestOpensAndOpenLockOfOtherMembers(t *testing.T) {
	eachLock(func(l impl.Lock) {
		values := impl.DealLock(l, 7, 3)
		for _, members := range badMemberLists() {
			if impl.Opens(l, members) || impl.OpenLock(l, values, members) != -1 {
				t.Errorf("%v open %v", members, l)
			}
		}
	})
}

func TestP73MoreMembersOpenMore(t *testing.T) {
	eachLock(func(l impl.Lock) {
		if impl.Opens(l, nil) {
			t.Errorf("nobody opens %v", l)
		}
		for _, members := range subsets(impl.MaxFew) {
			for one := 0; one < impl.MaxFew && impl.Opens(l, members); one++ {
				if more := append(append([]int{}, members...), one); !contains(members, one) && !impl.Opens(l, more) {
					t.Errorf("%v open %v, but not with %d", members, l, one)
				}
			}
		}
	})
}

func TestLeastOpeners(t *testing.T) {
	cases := []struct {
		l    impl.Lock
		want [][]int
	}{
		{lock(2, []int{0, 1}, lock(1, []int{2, 3})), [][]int{{0, 1}, {0, 2}, {1, 2}, {0, 3}, {1, 3}}},
		{lock(1, []int{7}), [][]int{{7}}},
		{lock(1, []int{5, 1, 3}), [][]int{{1}, {3}, {5}}},
		{lock(2, []int{0}, lock(1, []int{0, 5})), [][]int{{0}}},
		{lock(1, []int{6}, lock(2, []int{7, 0, 6})), [][]int{{6}, {0, 7}}},
		{lock(1, nil, lock(2, []int{3, 2}), lock(1, []int{1})), [][]int{{1}, {2, 3}}},
		{lock(impl.MaxFew, upTo(impl.MaxFew)), [][]int{upTo(impl.MaxFew)}},
		{lock(1, upTo(impl.MaxFew)), [][]int{{0}, {1}, {2}, {3}, {4}, {5}, {6}, {7}}},
		{chain(impl.MaxLocks, 2), [][]int{{2}}},
	}
	for _, c := range cases {
		if got := impl.LeastOpeners(c.l); !equalLists(got, c.want) {
			t.Errorf("LeastOpeners(%v) = %v, not %v", c.l, got, c.want)
		}
	}
}

func TestLeastOpenersIsByLists(t *testing.T) {
	eachLock(func(l impl.Lock) {
		if got, want := impl.LeastOpeners(l), leastByLists(l); !equalLists(got, want) {
			t.Errorf("LeastOpeners(%v) = %v, not %v", l, got, want)
		}
	})
}

func TestP74LeastOpenersAreLeast(t *testing.T) {
	eachLock(func(l impl.Lock) {
		openers := impl.LeastOpeners(l)
		if len(openers) == 0 || !impl.Opens(l, upTo(impl.MaxFew)) {
			t.Errorf("LeastOpeners(%v) = %v, or not all members together open it", l, openers)
		}
		for _, members := range openers {
			if !impl.Opens(l, members) {
				t.Errorf("%v do not open %v", members, l)
			}
			for i := range members {
				if impl.Opens(l, without(members, i)) {
					t.Errorf("%v open %v without %d, too", members, l, members[i])
				}
			}
		}
	})
}

func TestP75WhoOpensALockHasLeastOpeners(t *testing.T) {
	eachLock(func(l impl.Lock) {
		openers := impl.LeastOpeners(l)
		for _, members := range subsets(impl.MaxFew) {
			found := false
			for _, least := range openers {
				found = found || isAmong(least, members)
			}
			if got := impl.Opens(l, members); got != found {
				t.Errorf("Opens(%v, %v) = %v, but LeastOpeners are %v", l, members, got, openers)
			}
		}
	})
}
