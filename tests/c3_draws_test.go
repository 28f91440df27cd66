package tests

import (
	"testing"

	"loop.example/savingsclub/impl"
)

// honest returns a reveal that is that of its commitment.
func honest(value int, salt int) impl.Reveal {
	return impl.Reveal{Commit: (value*7919 + salt*salt + salt) % 99991, Value: value, Salt: salt}
}

// reveal returns a reveal.
func reveal(commit int, value int, salt int) impl.Reveal {
	return impl.Reveal{Commit: commit, Value: value, Salt: salt}
}

// someReveals returns reveals with all ends of values and salts, every other one of which is not honest.
func someReveals() []impl.Reveal {
	return []impl.Reveal{
		honest(1, 2), reveal(7925, 2, 2),
		honest(0, 0), reveal(impl.Modulus, 0, 0),
		honest(impl.MaxDraw, impl.MaxSalt), reveal(honest(impl.MaxDraw, impl.MaxSalt).Commit+1, impl.MaxDraw, impl.MaxSalt),
		honest(40319, 0), reveal(-1, 40319, 0),
		honest(0, impl.MaxSalt), reveal(honest(0, impl.MaxSalt).Commit-1, 0, impl.MaxSalt),
		honest(7, 5), reveal(minInt, 7, 5),
		honest(impl.MaxDraw, 0), reveal(maxInt, impl.MaxDraw, 0),
	}
}

// eachReveals calls check for lists of reveals: all short ones of some, and long ones.
func eachReveals(check func(list []impl.Reveal)) {
	some := someReveals()
	check(nil)
	for _, first := range some {
		check([]impl.Reveal{first})
		for _, second := range some {
			check([]impl.Reveal{first, second})
			for _, third := range some {
				check([]impl.Reveal{first, second, third})
			}
		}
	}
	for count := 4; count <= impl.MaxMembers; count++ {
		for by := 0; by < 40; by++ {
			var list []impl.Reveal
			for i := 0; i < count; i++ {
				list = append(list, some[(by*(i+1)+i*i)%len(some)])
			}
			check(list)
		}
	}
}

// equalReveals returns reveals that are all the same one.
func equalReveals(count int, one impl.Reveal) []impl.Reveal {
	var list []impl.Reveal
	for i := 0; i < count; i++ {
		list = append(list, one)
	}
	return list
}

// badReveals returns lists of reveals that are not valid, some with reveals of values and salts that have no commitment.
func badReveals() [][]impl.Reveal {
	one := honest(3, 4)
	lists := [][]impl.Reveal{
		equalReveals(impl.MaxMembers+1, one), equalReveals(impl.MaxMembers+1, reveal(-1, 3, 4)), equalReveals(1000, one),
	}
	for _, bad := range []impl.Reveal{
		reveal(-1, -1, 0), reveal(-1, 0, -1), reveal(-1, impl.MaxDraw+1, 0), reveal(-1, 0, impl.MaxSalt+1), reveal(-1, -1, -1),
		reveal(-1, impl.MaxDraw+1, impl.MaxSalt+1), reveal(-1, minInt, 0), reveal(-1, maxInt, 0), reveal(-1, 0, minInt), reveal(-1, 0, maxInt),
		honest(impl.MaxDraw+1, 0), honest(0, impl.MaxSalt+1), reveal(0, -1, 0), reveal(impl.Modulus-impl.Mixer, -1, 0), reveal(0, 0, -1),
	} {
		lists = append(lists, []impl.Reveal{bad}, []impl.Reveal{bad, one}, []impl.Reveal{one, bad}, []impl.Reveal{one, bad, one},
			append(equalReveals(impl.MaxMembers-1, one), bad))
	}
	return lists
}

// honestOnes returns the reveals that are Honest, as a new list.
func honestOnes(list []impl.Reveal) []impl.Reveal {
	var rest []impl.Reveal
	for _, i := range impl.Honest(list) {
		rest = append(rest, list[i])
	}
	return rest
}

// withOneMore returns reveals with one more at an index, as a new list.
func withOneMore(list []impl.Reveal, index int, one impl.Reveal) []impl.Reveal {
	longer := append([]impl.Reveal{}, list[:index]...)
	longer = append(longer, one)
	return append(longer, list[index:]...)
}

func TestCommitTo(t *testing.T) {
	for _, c := range [][3]int{
		{0, 0, 0}, {0, 1, 2}, {0, 2, 6}, {1, 0, 7919}, {1, 2, 7925}, {2, 1, 15840}, {12, 0, 95028}, {13, 0, 2956}, {0, 315, 99540}, {0, 316, 181},
		{0, impl.MaxSalt, 98991}, {impl.MaxDraw, 0, 85631}, {impl.MaxDraw, impl.MaxSalt, 84631}, {impl.MaxSalt, impl.MaxDraw, -1},
	} {
		if got := impl.CommitTo(c[0], c[1]); got != c[2] {
			t.Errorf("CommitTo(%d, %d) = %d, not %d", c[0], c[1], got, c[2])
		}
	}
}

func TestCommitToOtherArguments(t *testing.T) {
	badValues := []int{-1, -2, -50000, minInt, impl.MaxDraw + 1, 2 * impl.MaxDraw, 1 << 62, maxInt}
	badSalts := []int{-1, -2, -9999, minInt, impl.MaxSalt + 1, 2 * impl.MaxSalt, 1 << 32, 1 << 62, maxInt}
	for _, value := range badValues {
		for _, salt := range append([]int{0, 1, impl.MaxSalt}, badSalts...) {
			if got := impl.CommitTo(value, salt); got != -1 {
				t.Errorf("CommitTo(%d, %d) = %d", value, salt, got)
			}
		}
	}
	for _, salt := range badSalts {
		for _, value := range []int{0, 1, impl.MaxDraw} {
			if got := impl.CommitTo(value, salt); got != -1 {
				t.Errorf("CommitTo(%d, %d) = %d", value, salt, got)
			}
		}
	}
}

// someSalts returns salts, with both ends.
func someSalts() []int {
	return []int{0, 1, 2, 315, 316, 5000, impl.MaxSalt - 1, impl.MaxSalt}
}

func TestP50CommitmentsAreKept(t *testing.T) {
	if impl.Mixer != 7919 || impl.Modulus != 99991 {
		t.Error("the numbers of commitments are others")
	}
	for _, salt := range someSalts() {
		for value := 0; value < impl.MaxDraw; value++ {
			checkCommits(t, value, salt)
		}
	}
	for salt := 0; salt <= impl.MaxSalt; salt++ {
		checkCommits(t, 0, salt)
		checkCommits(t, impl.MaxDraw-1, salt)
	}
}

// checkCommits fails if the commitments to a value and to the next one are too great, or do not differ by Mixer.
func checkCommits(t *testing.T, value int, salt int) {
	t.Helper()
	commit := impl.CommitTo(value, salt)
	next := impl.CommitTo(value+1, salt)
	if commit < 0 || commit >= impl.Modulus || next < 0 || next >= impl.Modulus || (commit+impl.Mixer)%impl.Modulus != next {
		t.Errorf("CommitTo(%d, %d) = %d, and then %d", value, salt, commit, next)
	}
}

func TestCommitToGrowsWithTheSalt(t *testing.T) {
	for _, value := range []int{0, 1, 12, 13, impl.MaxDraw} {
		for salt := 1; salt <= impl.MaxSalt; salt++ {
			before := impl.CommitTo(value, salt-1)
			if got := impl.CommitTo(value, salt); got != (before+2*salt)%impl.Modulus {
				t.Errorf("CommitTo(%d, %d) = %d, behind %d", value, salt, got, before)
			}
		}
	}
}

func TestP51NobodyCanChangeAValueAlone(t *testing.T) {
	for _, salt := range someSalts() {
		valueOf := map[int]int{}
		for value := 0; value <= impl.MaxDraw; value++ {
			commit := impl.CommitTo(value, salt)
			if other, is := valueOf[commit]; is {
				t.Errorf("CommitTo(%d, %d) and CommitTo(%d, %d) are %d", other, salt, value, salt, commit)
			}
			valueOf[commit] = value
		}
	}
}

func TestHonest(t *testing.T) {
	cases := []struct {
		list []impl.Reveal
		want []int
	}{
		{nil, nil},
		{[]impl.Reveal{reveal(7925, 1, 2), reveal(7925, 2, 2)}, []int{0}},
		{[]impl.Reveal{reveal(7925, 2, 2), reveal(7925, 1, 2)}, []int{1}},
		{[]impl.Reveal{reveal(7925, 1, 2), reveal(7925, 1, 2)}, []int{0, 1}},
		{[]impl.Reveal{reveal(7925, 1, 3), reveal(7924, 1, 2), reveal(7926, 1, 2)}, nil},
		{[]impl.Reveal{reveal(0, 0, 0)}, []int{0}},
		{[]impl.Reveal{reveal(-1, 0, 0), reveal(99991, 0, 0), reveal(-99991, 0, 0), reveal(0, 0, 0)}, []int{3}},
		{[]impl.Reveal{reveal(84631, impl.MaxDraw, impl.MaxSalt), reveal(0, impl.MaxDraw, impl.MaxSalt)}, []int{0}},
		{[]impl.Reveal{reveal(102947, 13, 0), reveal(2956, 13, 0)}, []int{1}},
		{equalReveals(impl.MaxMembers, reveal(2, 0, 1)), upTo(impl.MaxMembers)},
		{equalReveals(impl.MaxMembers, reveal(1, 0, 1)), nil},
		{append(equalReveals(impl.MaxMembers-1, reveal(1, 0, 1)), reveal(2, 0, 1)), []int{impl.MaxMembers - 1}},
	}
	for _, c := range cases {
		if got := impl.Honest(c.list); !equal(got, c.want) {
			t.Errorf("Honest(%v) = %v, not %v", c.list, got, c.want)
		}
	}
}

func TestDrawOf(t *testing.T) {
	list := []impl.Reveal{reveal(7925, 1, 2), reveal(7925, 2, 2), honest(5, 9), honest(impl.MaxDraw, impl.MaxSalt)}
	cases := []struct {
		list    []impl.Reveal
		choices int
		sum     int
		choice  int
	}{
		{list[:2], 4, 1, 1},
		{list[:3], 4, 6, 2},
		{list[1:3], 4, 5, 1},
		{list[1:2], 4, 0, 0},
		{list, 1, 50006, 0},
		{list, 7, 50006, 5},
		{list, impl.MaxDraw, 50006, 6},
		{nil, 1, 0, 0},
		{nil, impl.MaxDraw, 0, 0},
		{[]impl.Reveal{honest(0, 3)}, 5, 0, 0},
		{[]impl.Reveal{honest(impl.MaxDraw, 3)}, impl.MaxDraw, impl.MaxDraw, 0},
		{[]impl.Reveal{honest(impl.MaxDraw-1, 3)}, impl.MaxDraw, impl.MaxDraw - 1, impl.MaxDraw - 1},
		{equalReveals(impl.MaxMembers, honest(impl.MaxDraw, 0)), 40320, 600000, 35520},
		{equalReveals(impl.MaxMembers, reveal(1, impl.MaxDraw, 0)), 9, 0, 0},
	}
	for _, c := range cases {
		if sum, choice := impl.DrawOf(c.list, c.choices); sum != c.sum || choice != c.choice {
			t.Errorf("DrawOf(%v, %d) = %d, %d, not %d, %d", c.list, c.choices, sum, choice, c.sum, c.choice)
		}
	}
}

func TestRevealsThatAreNotValid(t *testing.T) {
	for _, list := range badReveals() {
		if got := impl.Honest(list); len(got) != 0 {
			t.Errorf("Honest(%v) = %v", list, got)
		}
		for _, choices := range []int{-1, 0, 1, 4, impl.MaxDraw, impl.MaxDraw + 1} {
			if sum, choice := impl.DrawOf(list, choices); sum != -1 || choice != -1 {
				t.Errorf("DrawOf(%v, %d) = %d, %d", list, choices, sum, choice)
			}
		}
		for members := 1; members <= impl.MaxFew; members++ {
			if got := impl.DrawOrder(list, members); len(got) != 0 {
				t.Errorf("DrawOrder(%v, %d) = %v", list, members, got)
			}
		}
	}
}

func TestDrawOfOtherChoices(t *testing.T) {
	eachReveals(func(list []impl.Reveal) {
		for _, choices := range []int{0, -1, -4, minInt, impl.MaxDraw + 1, 2 * impl.MaxDraw, maxInt} {
			if sum, choice := impl.DrawOf(list, choices); sum != -1 || choice != -1 {
				t.Errorf("DrawOf(%v, %d) = %d, %d", list, choices, sum, choice)
			}
		}
	})
}

func TestP52HonestRevealsAreHonest(t *testing.T) {
	eachReveals(func(list []impl.Reveal) {
		var want []int
		for i, one := range list {
			if impl.CommitTo(one.Value, one.Salt) == one.Commit {
				want = append(want, i)
			}
		}
		if got := impl.Honest(list); !equal(got, want) {
			t.Errorf("Honest(%v) = %v, not %v", list, got, want)
		}
	})
}

// someChoices returns numbers of choices, with both ends.
func someChoices() []int {
	return []int{1, 2, 3, 10, 720, 40320, impl.MaxDraw - 1, impl.MaxDraw}
}

func TestDrawOfIsTheSumOfHonestValues(t *testing.T) {
	eachReveals(func(list []impl.Reveal) {
		want := 0
		for _, i := range impl.Honest(list) {
			want += list[i].Value
		}
		for _, choices := range someChoices() {
			if sum, choice := impl.DrawOf(list, choices); sum != want || choice != want%choices {
				t.Errorf("DrawOf(%v, %d) = %d, %d, not %d, %d", list, choices, sum, choice, want, want%choices)
			}
		}
	})
}

func TestP53OnlyHonestValuesCount(t *testing.T) {
	eachReveals(func(list []impl.Reveal) {
		for _, choices := range someChoices() {
			sum, choice := impl.DrawOf(list, choices)
			for _, other := range [][]impl.Reveal{honestOnes(list), reversed(list)} {
				if again, drawn := impl.DrawOf(other, choices); sum < 0 || again != sum || drawn != choice {
					t.Errorf("DrawOf(%v, %d) = %d, %d, but of %v it is %d, %d", list, choices, sum, choice, other, again, drawn)
				}
			}
		}
	})
}

// drawnOnce reports whether each choice is drawn for exactly one value of one more member, at an index of the reveals.
func drawnOnce(list []impl.Reveal, index int, choices int) bool {
	isDrawn := make([]bool, choices)
	for value := 0; value < choices; value++ {
		_, choice := impl.DrawOf(withOneMore(list, index, honest(value, 17)), choices)
		if choice < 0 || choice >= choices || isDrawn[choice] {
			return false
		}
		isDrawn[choice] = true
	}
	return true
}

func TestP54OneHonestMemberIsEnough(t *testing.T) {
	eachReveals(func(list []impl.Reveal) {
		if len(list) == impl.MaxMembers {
			list = list[1:]
		}
		for _, choices := range []int{1, 2, 3, 10} {
			if !drawnOnce(list, 0, choices) || !drawnOnce(list, len(list), choices) {
				t.Errorf("of %d choices not each is drawn once behind %v", choices, list)
			}
		}
	})
	for _, choices := range []int{720, 40320, impl.MaxDraw} {
		if list := equalReveals(impl.MaxMembers-1, honest(impl.MaxDraw, impl.MaxSalt)); !drawnOnce(list, 5, choices) {
			t.Errorf("of %d choices not each is drawn once behind %v", choices, list)
		}
	}
}
