package master_test

import (
	"fmt"
	"math/rand"
	"strings"
	"testing"

	"wardmote/api"
)

// These are of clients that were told that there are MaxTablets: what else was
// told, and the tablets, leave room for 15 splits ahead of that, and for merges behind it.

// wasFull are replies: these plans of number 1, ErrFull, and one that leaves room for any plans of which nothing is known.
func wasFull(plans ...api.Answer) []reply {
	return append(told1(append(plans, code(api.ErrFull))...), reply{mostClient, greatest, code(api.ErrArg)})
}

// splitsOf are plans with the Gens from first to last, each of which cuts x at this name.
func splitsOf(x api.Tablet, at string, first, last int) []api.Answer {
	var l []api.Answer
	for gen := first; gen <= last; gen++ {
		l = append(l, toSplit(at, x, gen))
	}
	return l
}

// one is a tablet of all names.
func one(group, gen int) []api.Tablet { return []api.Tablet{tab("", "", group, gen)} }

// TestLoadOfFullBehindPlans: plans of few tablets up to some Gen leave room for MaxTablets behind them, if there are plans enough.
func TestLoadOfFullBehindPlans(t *testing.T) {
	whole, high := whole()[0], halves()[1]
	// One tablet was cut by the last of these at most: 14 more splits, and 15 merges.
	toOne := splitsOf(whole, "m", 2, 16)
	// There were three tablets behind the last of these at most: 13 more splits, and 15 merges.
	toTwo := append([]api.Answer{firstSplit()}, splitsOf(high, "t", 3, 16)...)
	for _, x := range []struct {
		what    string
		last    int
		tablets []api.Tablet
		plans   []api.Answer
		want    bool
	}{
		{"one was cut", 31, one(2, 31), toOne, false},
		{"one was cut", 44, one(1, 44), toOne, false},
		{"one was cut", 45, one(1, 45), toOne, true},
		{"one was cut, and all was moved", 45, one(2, 45), toOne, false},
		{"one was cut, and all was moved", 46, one(2, 46), toOne, true},
		{"one was cut, and plans were given up behind it", 90, one(1, 44), toOne, false},
		{"one was cut, and plans were given up behind it", 90, one(1, 45), toOne, true},
		{"one was cut, and there are two", 43, []api.Tablet{tab("", "m", 1, 43), tab("m", "", 1, 42)}, toOne, false},
		{"one was cut, and there are two", 44, []api.Tablet{tab("", "m", 1, 44), tab("m", "", 1, 43)}, toOne, true},
		{"one of two was cut", 43, one(1, 43), toTwo, false},
		{"one of two was cut", 44, one(1, 44), toTwo, true},
		{"one of two was cut, and one plan more is known", 44, one(1, 44), append(toTwo, toMove("", halves()[0], 2, 17)), false},
		{"one of two was cut, and one plan more is known", 45, one(1, 45), append(toTwo, toMove("", halves()[0], 2, 17)), true},
	} {
		b := body{groups: 3, last: x.last, tablets: x.tablets, replies: wasFull(x.plans...)}
		wantLoads(t, x.what, b, x.want)
	}
}

// TestLoadOfFullAheadOfPlans: a plan tells that there was one tablet, since some Gen and till another one.
func TestLoadOfFullAheadOfPlans(t *testing.T) {
	for _, x := range []struct {
		old, gen, last int
		want           bool
	}{
		{30, 40, 60, false},
		{31, 40, 60, true},
		{31, 32, 60, true},
		{1, 40, 60, false},
		{30, 40, 69, false},
		{30, 40, 70, true},
		{1, 40, 69, false},
		{1, 40, 70, true},
	} {
		plan := toMove("", tab("", "", 1, x.old), 2, x.gen)
		b := body{groups: 2, last: x.last, tablets: one(2, x.gen), replies: wasFull(plan)}
		if x.last >= 69 {
			// It was cut behind that plan, and is one again.
			b.tablets = one(1, x.last)
		}
		wantLoads(t, fmt.Sprintf("one from %d to %d", x.old, x.gen), b, x.want)
	}
}

// TestLoadOfFullSince: a client that was told all plans ahead of it can't have
// been told ErrFull till others had numbers enough for those behind it.
func TestLoadOfFullSince(t *testing.T) {
	plan := toMove("", tab("", "", 1, 31), 2, 40)
	for _, x := range []struct {
		seq  int
		want bool
	}{
		{1, false},
		{30, false},
		// There were MaxTablets at Gen 16 alone, and one of the 44 plans behind it is known.
		{43, false},
		{44, true},
		{greatest, true},
	} {
		l := []reply{{1, greatest, code(api.ErrFull)}, {2, x.seq, code(api.ErrArg)}, {3, 1, plan}}
		b := body{groups: 2, last: 60, tablets: one(2, 40), replies: l}
		wantLoads(t, fmt.Sprint("number ", x.seq), b, x.want)
	}
}

// TestLoadOfFullBeside: tablets that were there all the time leave room for MaxTablets beside them.
func TestLoadOfFullBeside(t *testing.T) {
	for _, x := range []struct {
		what    string
		last    int
		tablets []api.Tablet
		want    bool
	}{
		{"a half", 29, []api.Tablet{tab("", "m", 1, 29), tab("m", "", 1, 2)}, false},
		{"a half", 30, []api.Tablet{tab("", "m", 1, 30), tab("m", "", 1, 2)}, true},
		{"a half that was moved", 30, []api.Tablet{tab("", "m", 1, 30), tab("m", "", 2, 3)}, false},
		{"a half that was moved", 31, []api.Tablet{tab("", "m", 1, 31), tab("m", "", 2, 3)}, true},
		{"three of which one was moved", 29, []api.Tablet{tab("", "g", 1, 27), tab("g", "p", 2, 28), tab("p", "", 1, 29)}, false},
		{"three of which one was moved", 30, []api.Tablet{tab("", "g", 1, 28), tab("g", "p", 2, 29), tab("p", "", 1, 30)}, true},
		{"few names", 90, []api.Tablet{tab("", zeros(2), 1, 90), tab(zeros(2), "", 1, 2)}, false},
		{"a name too few", 90, []api.Tablet{tab("", zeros(14), 1, 90), tab(zeros(14), "", 1, 2)}, false},
		{"names enough", 90, []api.Tablet{tab("", zeros(15), 1, 90), tab(zeros(15), "", 1, 2)}, true},
		{"few names, but they were one with others", 90, []api.Tablet{tab("", zeros(2), 1, 90), tab(zeros(2), "", 1, 90)}, true},
	} {
		b := body{groups: 2, last: x.last, tablets: x.tablets, replies: wasFull()}
		wantLoads(t, x.what, b, x.want)
	}
}

// zeros are a name that is so long: there are so many less one ahead of it, but for the empty one.
func zeros(n int) string { return strings.Repeat("\x00", n) }

// TestLoadOfManyFull: tablets are cut till there are MaxTablets, and merged till
// there are few, again and again: whatever clients are told, what is saved is loaded.
func TestLoadOfManyFull(t *testing.T) {
	t.Parallel()
	told := 0
	for seed := range int64(12) {
		rnd := rand.New(rand.NewSource(seed))
		m := made(t, 1+rnd.Intn(maxGroups))
		clients := 2 + rnd.Intn(18)
		grows := true
		for seq := 1; seq <= 250; seq++ {
			a := m.Do(rnd.Intn(clients), seq, oneToFill(rnd, m.All(), grows))
			if plan, busy := m.Pending(); busy && rnd.Intn(8) > 0 {
				m.Do(0, 0, []api.Command{publish(plan.Gen), publish(plan.Gen), publish(plan.Gen), leave(plan.Gen)}[rnd.Intn(4)])
			}
			if a.Code == api.ErrFull {
				told++
			}
			if n := len(m.All()); n == 1 || n == maxTablets && rnd.Intn(9) == 0 {
				grows = n == 1
			}
			b := m.Save()
			what := fmt.Sprintf("P12.2: seed %d, number %d", seed, seq)
			wantSaved(t, what, loaded(t, what+": "+picture(m), b), b)
		}
	}
	if told < 60 {
		t.Errorf("hardly any client was told ErrFull: %d", told)
	}
}

// oneToFill asks for a plan that most often makes tablets more, or less.
func oneToFill(rnd *rand.Rand, l []api.Tablet, grows bool) api.Command {
	x := l[rnd.Intn(len(l))]
	switch {
	case rnd.Intn(9) == 0:
		return move(x.Span.Lo, 1+rnd.Intn(maxGroups))
	case grows:
		return split(string([]byte{byte('a' + rnd.Intn(26))}))
	}
	for i := 1; i < len(l); i++ {
		if l[i-1].Group != l[i].Group && rnd.Intn(2) == 0 {
			return move(l[i].Span.Lo, l[i-1].Group)
		}
	}
	return merge(x.Span.Lo)
}
