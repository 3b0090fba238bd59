package master_test

import (
	"fmt"
	"testing"

	"wardmote/api"
)

// otherPlans are plans that a master of two groups would begin, or refuse.
func otherPlans() []api.Command {
	return []api.Command{split("m"), split("z"), move("z", 2), merge("m"), merge(""), move("m", 9), split("")}
}

// TestAgain: the same answer, and one plan alone, whatever the number asks for then.
func TestAgain(t *testing.T) {
	for _, seq := range []int{1, 5, greatest} {
		for _, client := range []int{0, 7, mostClient} {
			m := made(t, 2)
			want := toSplit("m", tab("", "", 1, 1), 2)
			wantBegun(t, "P12.1: fresh", m, client, seq, split("m"), want)
			for _, c := range otherPlans() {
				wantNothing(t, "P12.1: again, under way", m, client, seq, c, want)
			}
			m.Do(1, 1, publish(2))
			for _, c := range otherPlans() {
				wantNothing(t, "P12.1: again, carried out", m, client, seq, c, want)
			}
			wantPicture(t, "P12.1: one plan alone", m, "-m@1#2 m-@1#2")
		}
	}
}

// TestAgainGivenUp: it is told as it was, though it is not under way any more.
func TestAgainGivenUp(t *testing.T) {
	m := made(t, 2)
	want := toMove("k", tab("", "", 1, 1), 2, 2)
	wantBegun(t, "P12.1: fresh", m, 7, 3, move("k", 2), want)
	m.Do(1, 1, leave(2))
	wantNothing(t, "P12.1: again, given up", m, 7, 3, move("k", 2), want)
	wantBegun(t, "P12.1: the next number", m, 7, 4, move("k", 2), toMove("k", tab("", "", 1, 1), 2, 3))
}

// TestOld: a number that was passed is refused, whatever it asks for.
func TestOld(t *testing.T) {
	m := made(t, 2)
	m.Do(7, 5, split("m"))
	for range 2 {
		for _, c := range otherPlans() {
			for seq := -1; seq < 5; seq++ {
				wantNothing(t, fmt.Sprint("P12.1: number ", seq, " behind 5"), m, 7, seq, c, code(api.ErrOld))
			}
		}
		m.Do(1, 1, publish(2))
	}
	// A refusal is kept as well: the numbers below it are old.
	wantKept(t, "P12.1: a refusal", m, 7, 9, merge(""), code(api.ErrArg))
	for seq := range 9 {
		wantNothing(t, fmt.Sprint("P12.1: number ", seq, " behind 9"), m, 7, seq, split("z"), code(api.ErrOld))
	}
	wantBegun(t, "P12.1: another client's number", m, 8, 1, split("z"), toSplit("z", tab("m", "", 1, 2), 3))
}

// TestNoClient: clients and numbers that are none are old, and nothing is kept of them.
func TestNoClient(t *testing.T) {
	for what, m := range masters(t) {
		for _, who := range [][2]int{
			{-1, 1}, {256, 1}, {-1 << 62, 5}, {1 << 32, 5}, {257, greatest}, {256 + maker, 1000}, {-1, greatest + 1},
			{0, 0}, {8, 0}, {8, -1}, {8, -1 << 62}, {8, greatest + 1}, {8, 1<<32 + 1}, {8, 1<<63 - 1},
		} {
			for _, c := range otherPlans() {
				wantNothing(t, fmt.Sprintf("P12.1: %s, client %d, number %d", what, who[0], who[1]), m, who[0], who[1], c, code(api.ErrOld))
			}
		}
	}
}

// TestEdgesOfNumbers: the first and the last client, the first and the last number.
func TestEdgesOfNumbers(t *testing.T) {
	m := made(t, 2)
	for i, who := range [][2]int{{0, 1}, {mostClient, 1}, {0, greatest}, {mostClient, greatest}, {8, greatest}} {
		want := toSplit("m", tab("", "", 1, 1), 2+i)
		wantBegun(t, fmt.Sprintf("P12.1: client %d, number %d", who[0], who[1]), m, who[0], who[1], split("m"), want)
		m.Do(1, 1, leave(2+i))
		wantNothing(t, "P12.1: again", m, who[0], who[1], split("z"), want)
	}
	for _, client := range []int{0, mostClient} {
		wantNothing(t, "P12.1: behind the last number", m, client, greatest+1, split("z"), code(api.ErrOld))
		wantNothing(t, "P12.1: ahead of the last number", m, client, greatest-1, split("z"), code(api.ErrOld))
	}
}

// TestRefusalsAreKept: each is told again where it would not be refused any more.
func TestRefusalsAreKept(t *testing.T) {
	m := made(t, 2)
	wantKept(t, "P12.1: ErrArg", m, 1, 1, merge("m"), code(api.ErrArg))
	begun(t, m, split("m"))
	wantKept(t, "P12.1: ErrBusy", m, 2, 1, split("z"), code(api.ErrBusy))
	wantNothing(t, "P12.1: ErrArg, told again where it is busy", m, 1, 1, merge("m"), code(api.ErrArg))
	m.Do(9, 1, publish(2))
	wantNothing(t, "P12.1: ErrArg, told again where there is one", m, 1, 1, merge("m"), code(api.ErrArg))
	wantNothing(t, "P12.1: ErrBusy, told again where none is under way", m, 2, 1, split("z"), code(api.ErrBusy))
	wantBegun(t, "P12.1: ErrBusy, then the next number", m, 2, 2, split("z"), toSplit("z", tab("m", "", 1, 2), 3))

	m = full(t, 2)
	wantKept(t, "P12.1: ErrFull", m, 3, 1, split("zz"), code(api.ErrFull))
	carried(t, m, merge("a"))
	wantNothing(t, "P12.1: ErrFull, told again where there is room", m, 3, 1, split("zz"), code(api.ErrFull))
	wantBegun(t, "P12.1: ErrFull, then the next number", m, 3, 2, split("zz"), toSplit("zz", tab("o", "", 1, 16), 18))
}

// TestClientsByThemselves: each has its own number.
func TestClientsByThemselves(t *testing.T) {
	m := made(t, 2)
	for client := range mostClient + 1 {
		wantAnswer(t, "P12.1: fresh", m.Do(client, client+1, move("m", 2)), toMove("m", tab("", "", 1, 1), 2, client+2))
		wantAnswer(t, "P12.1: given up", m.Do(client, 1, leave(client+2)), code(api.OK))
	}
	for client := range mostClient + 1 {
		wantNothing(t, "P12.1: again", m, client, client+1, split("m"), toMove("m", tab("", "", 1, 1), 2, client+2))
		wantNothing(t, "P12.1: old", m, client, client, split("m"), code(api.ErrOld))
	}
}

// TestOthersAreNotCached: Locate and Publish neither look at numbers nor keep them.
func TestOthersAreNotCached(t *testing.T) {
	m := made(t, 2)
	m.Do(7, 5, split("m"))
	wantNothing(t, "P12.1: Locate of a plan's number", m, 7, 5, locate("z"), api.Answer{Group: 1, Gen: 1})
	wantAnswer(t, "P12.1: Publish of a plan's number", m.Do(7, 5, publish(2)), code(api.OK))
	wantPicture(t, "P12.1: Publish of a plan's number", m, "-m@1#2 m-@1#2")
	wantNothing(t, "P12.1: Locate of an old number", m, 7, 1, locate("z"), api.Answer{Span: of("m", ""), Group: 1, Gen: 2})
	wantNothing(t, "P12.1: Publish of a high number", m, 7, 90, publish(2), code(api.OK))
	wantBegun(t, "P12.1: Plan of a number below it", m, 7, 6, move("z", 2), toMove("z", tab("m", "", 1, 2), 2, 3))
	wantAnswer(t, "P12.1: Publish of an old number", m.Do(7, 0, publish(3)), code(api.OK))
	wantPicture(t, "P12.1: Publish of an old number", m, "-m@1#2 m-@2#3")
}
