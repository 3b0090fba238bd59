package ballot_test

import (
	"math"
	"testing"

	"wardmote/ballot"
)

// highest is the highest ballot that the chapter speaks of.
const highest = 1 << 30

// sizes are the numbers of replicas that are right.
func sizes() []int { return []int{1, 3, 5} }

// wrongSizes are numbers of replicas that are none.
func wrongSizes() []int {
	return []int{math.MinInt, math.MinInt32, -5, -3, -2, -1, 0, 2, 4, 6, 7, 8, 9, 15, 25, math.MaxInt32, math.MaxInt}
}

// ballots are the low ones, those about the highest, and some between.
func ballots() []int {
	var l []int
	for b := range 70 {
		l = append(l, b)
	}
	for k := 7; k <= 30; k++ {
		l = append(l, 1<<k-1, 1<<k)
	}
	for b := highest - 20; b <= highest; b++ {
		l = append(l, b)
	}
	return l
}

// belowAll are numbers that are no ballots.
func belowAll() []int {
	return []int{-1, -2, -3, -4, -5, -6, -7, -10, -15, math.MinInt32, math.MinInt + 1, math.MinInt}
}

// want asks for one number.
func want(t *testing.T, got, want int, call string, args ...int) {
	t.Helper()
	if got != want {
		t.Errorf("P15.1: %s of %d: %d, want %d", call, args, got, want)
	}
}

func TestRuns(t *testing.T) {
	want(t, ballot.Next(4, 0, 3), 6, "run: Next", 4, 0, 3)
	want(t, ballot.Patience(7, 3), 8, "run: Patience", 7, 3)
	want(t, ballot.Next(-1, 2, 3), 2, "example 1: Next", -1, 2, 3)
	if ballot.Right(4) {
		t.Error("example 2: Right(4)")
	}
}

func TestRight(t *testing.T) {
	for _, n := range sizes() {
		if !ballot.Right(n) {
			t.Errorf("P15.1: Right(%d) is false", n)
		}
	}
	for _, n := range wrongSizes() {
		if ballot.Right(n) {
			t.Errorf("P15.1: Right(%d) is true", n)
		}
	}
}

// TestWrongSizes: whatever the other numbers are, right ones and wrong ones.
func TestWrongSizes(t *testing.T) {
	for _, n := range wrongSizes() {
		want(t, ballot.Quorum(n), -1, "Quorum", n)
		for _, b := range append(ballots(), belowAll()...) {
			want(t, ballot.Leader(b, n), -1, "Leader", b, n)
			want(t, ballot.Epoch(b, n), -1, "Epoch", b, n)
			want(t, ballot.Patience(b, n), -1, "Patience", b, n)
			for _, me := range []int{-1, 0, 1, n - 1, n} {
				want(t, ballot.Next(b, me, n), -1, "Next", b, me, n)
			}
		}
	}
}

func TestQuorum(t *testing.T) {
	for n, q := range map[int]int{1: 1, 3: 2, 5: 3} {
		want(t, ballot.Quorum(n), q, "Quorum", n)
	}
}

// TestQuorumsMeet: any two quorums have a replica in common, and with one less they may have none.
func TestQuorumsMeet(t *testing.T) {
	for _, n := range sizes() {
		q := ballot.Quorum(n)
		if 2*q <= n || 2*(q-1) > n || q > n {
			t.Errorf("P15.1: Quorum(%d) is %d", n, q)
		}
	}
}

func TestLeader(t *testing.T) {
	for b, w := range []int{0, 1, 2, 0, 1, 2, 0} {
		want(t, ballot.Leader(b, 3), w, "Leader", b, 3)
	}
	for b, w := range []int{0, 1, 2, 3, 4, 0, 1, 2, 3, 4, 0} {
		want(t, ballot.Leader(b, 5), w, "Leader", b, 5)
	}
	for _, b := range ballots() {
		want(t, ballot.Leader(b, 1), 0, "Leader", b, 1)
	}
	want(t, ballot.Leader(highest, 3), 1, "Leader", highest, 3)
	want(t, ballot.Leader(highest, 5), 4, "Leader", highest, 5)
	for _, n := range sizes() {
		for _, b := range belowAll() {
			want(t, ballot.Leader(b, n), -1, "Leader", b, n)
		}
	}
}

func TestEpoch(t *testing.T) {
	for b, w := range []int{0, 0, 0, 1, 1, 1, 2} {
		want(t, ballot.Epoch(b, 3), w, "Epoch", b, 3)
	}
	for b, w := range []int{0, 0, 0, 0, 0, 1, 1, 1, 1, 1, 2} {
		want(t, ballot.Epoch(b, 5), w, "Epoch", b, 5)
	}
	for _, b := range ballots() {
		want(t, ballot.Epoch(b, 1), b, "Epoch", b, 1)
	}
	want(t, ballot.Epoch(highest, 3), 357913941, "Epoch", highest, 3)
	want(t, ballot.Epoch(highest, 5), 214748364, "Epoch", highest, 5)
	for _, n := range sizes() {
		for _, b := range belowAll() {
			want(t, ballot.Epoch(b, n), 0, "Epoch", b, n)
		}
	}
}

// TestEpochAndLeader: both together are the ballot, and no other one has both.
func TestEpochAndLeader(t *testing.T) {
	for _, n := range sizes() {
		for _, b := range ballots() {
			e, l := ballot.Epoch(b, n), ballot.Leader(b, n)
			if l < 0 || l >= n || e*n+l != b {
				t.Errorf("P15.1: ballot %d of %d: Epoch %d, Leader %d", b, n, e, l)
			}
		}
	}
}

func TestPatience(t *testing.T) {
	for b, w := range []int{2, 4, 8, 16, 16, 16} {
		want(t, ballot.Patience(b, 1), w, "Patience", b, 1)
	}
	for b, w := range []int{2, 2, 2, 4, 4, 4, 8, 8, 8, 16, 16, 16, 16} {
		want(t, ballot.Patience(b, 3), w, "Patience", b, 3)
	}
	for e, w := range []int{2, 4, 8, 16, 16} {
		for l := range 5 {
			want(t, ballot.Patience(5*e+l, 5), w, "Patience", 5*e+l, 5)
		}
	}
	for _, n := range sizes() {
		for _, b := range ballots() {
			if b >= 3*n {
				want(t, ballot.Patience(b, n), 16, "Patience", b, n)
			}
		}
		for _, b := range belowAll() {
			want(t, ballot.Patience(b, n), 2, "Patience", b, n)
		}
	}
}
