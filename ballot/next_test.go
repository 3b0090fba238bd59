package ballot_test

import (
	"math"
	"testing"

	"wardmote/ballot"
)

// TestNext: the least one is found by going up one by one.
func TestNext(t *testing.T) {
	for _, n := range sizes() {
		for _, b := range append(ballots(), -1) {
			for me := range n {
				least := b + 1
				for least%n != me {
					least++
				}
				want(t, ballot.Next(b, me, n), least, "Next", b, me, n)
			}
		}
	}
}

// TestNextByHand: of the own ballot, of one below it, of one above it; of the highest ones.
func TestNextByHand(t *testing.T) {
	for _, x := range []struct{ b, me, n, want int }{
		{-1, 0, 1, 0}, {0, 0, 1, 1}, {9, 0, 1, 10},
		{-1, 0, 3, 0}, {-1, 1, 3, 1}, {-1, 2, 3, 2},
		{0, 0, 3, 3}, {0, 1, 3, 1}, {0, 2, 3, 2},
		{2, 0, 3, 3}, {2, 1, 3, 4}, {2, 2, 3, 5},
		{-1, 4, 5, 4}, {3, 3, 5, 8}, {3, 4, 5, 4}, {4, 4, 5, 9}, {4, 0, 5, 5}, {17, 1, 5, 21},
		{highest - 1, 0, 1, highest}, {highest, 0, 1, highest + 1},
		{highest - 1, 1, 3, highest}, {highest, 1, 3, highest + 3}, {highest, 0, 3, highest + 2}, {highest, 2, 3, highest + 1},
		{highest - 1, 4, 5, highest}, {highest, 4, 5, highest + 5}, {highest, 0, 5, highest + 1}, {highest, 3, 5, highest + 4},
	} {
		want(t, ballot.Next(x.b, x.me, x.n), x.want, "Next", x.b, x.me, x.n)
	}
}

// TestNextOfLowNumbers: what is below -1 is as -1: each replica's first ballot is its number.
func TestNextOfLowNumbers(t *testing.T) {
	for _, n := range sizes() {
		for _, b := range belowAll() {
			for me := range n {
				want(t, ballot.Next(b, me, n), me, "Next", b, me, n)
			}
		}
	}
}

// TestNextOfOthers: who is none of the replicas leads by no ballot.
func TestNextOfOthers(t *testing.T) {
	for _, n := range sizes() {
		for _, b := range append(ballots(), belowAll()...) {
			for _, me := range []int{math.MinInt, -n - 1, -n, -1, n, n + 1, 2 * n, math.MaxInt} {
				want(t, ballot.Next(b, me, n), -1, "Next", b, me, n)
			}
		}
	}
}

// TestNextGoesOn: going from one to the next, replicas by turns take all ballots, and one alone takes one an epoch.
func TestNextGoesOn(t *testing.T) {
	for _, n := range sizes() {
		for i, b := 0, -1; i < 40; i++ {
			b = ballot.Next(b, i%n, n)
			want(t, b, i, "Next by turns", i-1, i%n, n)
		}
		for me := range n {
			for e, b := 0, -1; e < 40; e++ {
				b = ballot.Next(b, me, n)
				want(t, ballot.Epoch(b, n), e, "Epoch of the next own one", b, n)
				want(t, ballot.Leader(b, n), me, "Leader of the next own one", b, n)
			}
		}
	}
}

// TestAboveTheBound: beyond the highest ballot nothing is promised but that calls end; what they answer is a number of the right kind all the same.
func TestAboveTheBound(t *testing.T) {
	for _, n := range sizes() {
		for _, b := range []int{highest + 1, math.MaxInt32, math.MaxInt - 9, math.MaxInt - 5, math.MaxInt - 4, math.MaxInt - 3, math.MaxInt - 2, math.MaxInt - 1, math.MaxInt} {
			want(t, ballot.Epoch(b, n)*n+ballot.Leader(b, n), b, "Epoch and Leader", b, n)
			want(t, ballot.Patience(b, n), 16, "Patience", b, n)
			for me := range n {
				next := ballot.Next(b, me, n)
				if next != -1 && (next <= b || next-b > n || ballot.Leader(next, n) != me) {
					t.Errorf("R6: Next(%d, %d, %d): %d", b, me, n, next)
				}
				if next == -1 && b <= math.MaxInt-n {
					t.Errorf("R6: Next(%d, %d, %d): %d, though there is one", b, me, n, next)
				}
			}
		}
	}
}
