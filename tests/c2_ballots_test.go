package tests

import (
	"testing"

	"loop.example/savingsclub/impl"
)

const (
	absent = impl.BaAbsent
	yes    = impl.BaYes
	blank  = impl.BaBlank
	no     = impl.BaNo
)

// kinds returns all ballots.
func kinds() []int {
	return []int{absent, yes, blank, no}
}

// badKinds returns numbers that are no ballots.
func badKinds() []int {
	return []int{-1, 4, 5, minInt, maxInt}
}

// ballotsFor returns ballots of count members: all if they are few, otherwise some.
func ballotsFor(count int) [][]int {
	if count <= 4 {
		return allLists(count, kinds())
	}
	var lists [][]int
	for step := 0; step < 16; step++ {
		var ballots []int
		for member := 0; member < count; member++ {
			ballots = append(ballots, (step/4+step*member+member*member/3)%4)
		}
		lists = append(lists, ballots)
	}
	return append(lists, times(count, absent), times(count, yes), times(count, blank), times(count, no))
}

// eachVote calls check for valid bodies and ballots of their members.
func eachVote(check func(b impl.Body, ballots []int)) {
	eachBody(func(b impl.Body) {
		for _, ballots := range ballotsFor(len(b.Weights)) {
			check(b, ballots)
		}
	})
}

// votesWith returns the votes of the members with a ballot.
func votesWith(b impl.Body, ballots []int, kind int) int {
	votes := 0
	for member, ballot := range ballots {
		if ballot == kind {
			votes += b.Weights[member]
		}
	}
	return votes
}

// quorumsFor returns numbers of votes, of any size, that have to be there.
func quorumsFor(b impl.Body, ballots []int) []int {
	there := sumOf(b.Weights) - votesWith(b, ballots, absent)
	return []int{minInt, -1, 0, 1, there - 1, there, there + 1, sumOf(b.Weights), sumOf(b.Weights) + 1, maxInt}
}

func TestBallots(t *testing.T) {
	if absent != 0 || yes != 1 || blank != 2 || no != 3 {
		t.Error("the ballots have other numbers")
	}
}

func TestTallyOf(t *testing.T) {
	b := body(8, 8, 4, 2, 1, 0)
	ballots := []int{yes, no, absent, yes, blank}
	for kind, want := range []int{2, 9, 0, 4} {
		if got := impl.TallyOf(b, ballots, kind); got != want {
			t.Errorf("TallyOf(%d) = %d, not %d", kind, got, want)
		}
	}
	eachVote(func(b impl.Body, ballots []int) {
		for _, kind := range kinds() {
			if got := impl.TallyOf(b, ballots, kind); got != votesWith(b, ballots, kind) {
				t.Fatalf("TallyOf(%v, %v, %d) = %d", b, ballots, kind, got)
			}
		}
	})
}

// isNotCounted reports whether TallyOf and Passes have no answer for any ballot, quorum and way to vote.
func isNotCounted(b impl.Body, ballots []int) bool {
	for _, kind := range append(kinds(), badKinds()...) {
		if impl.TallyOf(b, ballots, kind) != -1 {
			return false
		}
	}
	for _, quorum := range []int{minInt, -1, 0, 1, maxInt} {
		if impl.Passes(b, ballots, quorum, true) || impl.Passes(b, ballots, quorum, false) {
			return false
		}
	}
	return true
}

func TestVotesOfOtherArguments(t *testing.T) {
	b := body(1, 3, 2, 1)
	check := func(b impl.Body, ballots []int) {
		if !isNotCounted(b, ballots) {
			t.Errorf("%v are counted in %v", ballots, b)
		}
	}
	for _, ballots := range [][]int{nil, {}, {yes}, {yes, yes}, {yes, yes, yes, yes}, times(100, yes)} {
		check(b, ballots)
	}
	for _, bad := range badKinds() {
		for member := range b.Weights {
			ballots := times(3, yes)
			ballots[member] = bad
			check(b, ballots)
		}
		if impl.TallyOf(b, times(3, yes), bad) != -1 || impl.TallyOf(body(1, 0, 1), times(2, absent), bad) != -1 {
			t.Errorf("TallyOf %d is told", bad)
		}
	}
	for _, bad := range badBodies() {
		for _, kind := range kinds() {
			check(bad, times(len(bad.Weights), kind))
		}
		check(bad, nil)
		check(bad, times(3, yes))
	}
}

func TestPasses(t *testing.T) {
	b := body(6, 5, 4, 3, 2, 1, 0)
	cases := []struct {
		ballots []int
		quorum  int
		simple  bool
		want    bool
	}{
		{[]int{yes, yes, no, no, no, yes}, 15, false, true},
		{[]int{yes, yes, no, no, no, yes}, 16, false, false},
		{[]int{yes, no, no, no, yes, no}, 15, false, true},
		{[]int{yes, no, no, no, yes, no}, 15, true, false},
		{[]int{yes, absent, blank, absent, absent, no}, 8, true, true},
		{[]int{yes, absent, blank, absent, absent, no}, 9, true, false},
		{[]int{yes, absent, blank, absent, absent, no}, 8, false, false},
		{[]int{absent, yes, absent, yes, absent, no}, 6, false, true},
		{[]int{absent, yes, absent, yes, absent, no}, 7, false, false},
		{[]int{absent, yes, blank, no, absent, no}, 9, true, true},
		{[]int{yes, absent, no, no, absent, blank}, 0, true, false},
		{[]int{yes, blank, no, no, yes, blank}, 15, true, true},
		{[]int{absent, absent, absent, absent, yes, blank}, 0, true, true},
		{[]int{absent, absent, absent, absent, absent, yes}, 0, true, false},
		{times(6, absent), 0, true, false},
		{times(6, absent), minInt, true, false},
		{times(6, absent), 0, false, false},
		{times(6, blank), 15, true, false},
		{times(6, blank), 15, false, false},
		{times(6, yes), 15, true, true},
		{times(6, yes), maxInt, true, false},
		{times(6, yes), maxInt, false, false},
		{times(6, yes), minInt, false, true},
		{times(6, no), minInt, false, false},
	}
	for _, c := range cases {
		if impl.Passes(b, c.ballots, c.quorum, c.simple) != c.want {
			t.Errorf("Passes(%v, %v, %d, %v) is not %v", b, c.ballots, c.quorum, c.simple, c.want)
		}
	}
}

func TestPassesByCounting(t *testing.T) {
	eachVote(func(b impl.Body, ballots []int) {
		there := votesWith(b, ballots, yes) + votesWith(b, ballots, blank) + votesWith(b, ballots, no)
		more := votesWith(b, ballots, yes) > votesWith(b, ballots, no)
		enough := votesWith(b, ballots, yes) >= b.Need
		for _, quorum := range quorumsFor(b, ballots) {
			isSimple := impl.Passes(b, ballots, quorum, true)
			isFull := impl.Passes(b, ballots, quorum, false)
			if isSimple != (there >= quorum && more) || isFull != (there >= quorum && enough) {
				t.Fatalf("Passes(%v, %v, %d) is %v and %v", b, ballots, quorum, isSimple, isFull)
			}
		}
	})
}

func TestP31AllBallotsAreAllVotes(t *testing.T) {
	eachVote(func(b impl.Body, ballots []int) {
		votes := 0
		for _, kind := range kinds() {
			votes += impl.TallyOf(b, ballots, kind)
		}
		if votes != sumOf(b.Weights) {
			t.Fatalf("TallyOf(%v, %v) are %d together", b, ballots, votes)
		}
	})
}

func TestP32MoreVotesForAMotionHelpIt(t *testing.T) {
	eachVote(func(b impl.Body, ballots []int) {
		for _, quorum := range quorumsFor(b, ballots) {
			for _, simple := range []bool{true, false} {
				if impl.Passes(b, ballots, quorum, simple) && !passesMoreEasily(b, ballots, quorum, simple) {
					t.Fatalf("Passes(%v, %v, %d, %v), but not with more votes", b, ballots, quorum, simple)
				}
			}
		}
	})
}

// passesMoreEasily reports whether a motion passes with any one ballot as BaYes, and with no quorum.
func passesMoreEasily(b impl.Body, ballots []int, quorum int, simple bool) bool {
	for member := range ballots {
		more := append([]int{}, ballots...)
		more[member] = yes
		if !impl.Passes(b, more, quorum, simple) {
			return false
		}
	}
	return impl.Passes(b, ballots, 0, simple) && impl.Passes(b, ballots, minInt, simple)
}

func TestP33MembersWhoVoteForAMotionWin(t *testing.T) {
	eachVote(func(b impl.Body, ballots []int) {
		var members []int
		for member, ballot := range ballots {
			if ballot == yes {
				members = append(members, member)
			}
		}
		if impl.Passes(b, ballots, 0, false) != impl.Wins(b, members) {
			t.Fatalf("Passes(%v, %v) is not as %v win", b, ballots, members)
		}
	})
}
