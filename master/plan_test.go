package master_test

import (
	"fmt"
	"testing"

	"wardmote/api"
	"wardmote/master"
)

// wantBegun asks that c is told this plan, and that it is under way then, and nothing else.
func wantBegun(t *testing.T, what string, m *master.Master, client, seq int, c api.Command, want api.Answer) {
	t.Helper()
	tablets := showAll(m.All())
	wantAnswer(t, what, m.Do(client, seq, c), want)
	wantPicture(t, what+": it is under way", m, tablets+"; "+show(want))
	if lastGen(m) != want.Gen {
		t.Errorf("%s: the last Gen is %d, want %d", what, lastGen(m), want.Gen)
	}
}

func TestWhichPlan(t *testing.T) {
	m := arranged(t, 3, split("m"))
	others := func(what string, want api.Answer) {
		t.Helper()
		for _, who := range [][2]int{{1, 1}, {1, 1}, {1, 0}, {-1, -1}, {256, greatest + 1}, {maker, 1}} {
			wantNothing(t, "P12.1: Plan with Do 0, "+what, m, who[0], who[1], which(), want)
			odd := api.Command{Kind: api.Plan, At: tooLong, To: -7, Gen: -1}
			wantNothing(t, "P12.1: Plan with Do 0, "+what+", and with what it does not ask for", m, who[0], who[1], odd, want)
		}
	}
	others("none is under way", code(api.ErrNone))
	for i, x := range []struct {
		c    api.Command
		want api.Answer
	}{
		{move("z", 3), toMove("z", tab("m", "", 1, 2), 3, 3)},
		{split("z"), toSplit("z", tab("m", "", 1, 2), 4)},
		{merge("m"), toMerge("m", of("", ""), 1, 5)},
	} {
		wantBegun(t, "P12.1: Plan", m, 1, i+1, x.c, x.want)
		others("one is under way", x.want)
		m.Do(1, 1, leave(x.want.Gen))
		others("none is under way any more", code(api.ErrNone))
	}
	// It was not kept: the number is as fresh as it was.
	wantBegun(t, "P12.1: Plan behind Do 0 of that number", m, 7, 1, merge("m"), toMerge("m", of("", ""), 1, 6))
}

// three are the tablets of threeTablets.
func three() (a, b, c api.Tablet) {
	return tab("", "g", 1, 2), tab("g", "p", 2, 4), tab("p", "", 1, 3)
}

// threeTablets has -g in group 1, g-p in group 2, p- in group 1; the last Gen is 4.
func threeTablets(t *testing.T, groups int) *master.Master {
	t.Helper()
	m := arranged(t, groups, split("g"), split("p"), move("g", 2))
	a, b, c := three()
	wantPicture(t, "P12.1: three tablets", m, showAll([]api.Tablet{a, b, c}))
	return m
}

func TestMove(t *testing.T) {
	a, b, c := three()
	for groups := 2; groups <= maxGroups; groups++ {
		for at, x := range map[string]api.Tablet{"": a, "a": a, "f\xff": a, "g": b, "k": b, "p": c, "z": c, longest: c} {
			for _, to := range []int{0, 1, 2, 3, 4, 254, 255} {
				what := fmt.Sprintf("P12.1: of %d groups, move %q to %d", groups, at, to)
				m := threeTablets(t, groups)
				if to < 1 || to > groups || to == x.Group {
					wantKept(t, what, m, 7, 1, move(at, to), code(api.ErrArg))
					continue
				}
				wantBegun(t, what, m, 7, 1, move(at, to), toMove(at, x, to, 5))
			}
		}
	}
}

// TestMoveOfOneGroup: there is nowhere to go.
func TestMoveOfOneGroup(t *testing.T) {
	m := made(t, 1)
	for to := range 256 {
		wantKept(t, fmt.Sprint("P12.1: of one group, move to ", to), m, 7, to+1, move("m", to), code(api.ErrArg))
	}
}

func TestSplit(t *testing.T) {
	a, b, c := three()
	for at, x := range map[string]api.Tablet{
		"\x00": a, "a": a, "f\xff": a, "g\x00": b, "k": b, "ozzzzzzzzzzzzzzz": b, "p\x00": c, "z": c, longest: c, "\xff": c,
	} {
		m := threeTablets(t, 2)
		wantBegun(t, fmt.Sprintf("P12.1: split at %q", at), m, 7, 1, split(at), toSplit(at, x, 5))
	}
	for _, at := range []string{"", "g", "p"} {
		m := threeTablets(t, 2)
		wantKept(t, fmt.Sprintf("P12.1: split at %q, a Lo", at), m, 7, 1, split(at), code(api.ErrArg))
	}
}

// TestToIsNotAsked: of splits and merges it may be any, and is told as 0.
func TestToIsNotAsked(t *testing.T) {
	a, _, _ := three()
	for _, to := range []int{0, 1, 2, 3, 7, 255} {
		m := threeTablets(t, 2)
		wantBegun(t, "P12.1: split, with a To", m, 7, 1, planned(api.DoSplit, "c", to), toSplit("c", a, 5))
		m = arranged(t, 2, split("m"))
		wantBegun(t, "P12.1: merge, with a To", m, 7, 1, planned(api.DoMerge, "m", to), toMerge("m", of("", ""), 1, 3))
	}
}

// TestSplitOfMany: MaxTablets are as many as there may be.
func TestSplitOfMany(t *testing.T) {
	m := full(t, 2)
	if len(m.All()) != maxTablets {
		t.Fatalf("P12.1: %d tablets", len(m.All()))
	}
	for i, at := range []string{"0", "aa", "f5", "z", "\xff"} {
		wantKept(t, fmt.Sprintf("P12.1: split of MaxTablets at %q", at), m, 7, i+1, split(at), code(api.ErrFull))
	}
	for i, at := range []string{"", "a", "h", "o"} {
		wantKept(t, fmt.Sprintf("P12.1: split of MaxTablets at %q, ErrArg ahead of ErrFull", at), m, 7, i+10, split(at), code(api.ErrArg))
	}
	// One less, and there is room for one.
	carried(t, m, merge("c"))
	wantBegun(t, "P12.1: split of one less than MaxTablets", m, 7, 20, split("z"), toSplit("z", tab("o", "", 1, 16), 18))
	m.Do(1, 1, publish(18))
	wantKept(t, "P12.1: split of MaxTablets again", m, 7, 21, split("zz"), code(api.ErrFull))
	// Others than splits go on.
	wantBegun(t, "P12.1: move of MaxTablets", m, 7, 22, move("zz", 2), toMove("zz", tab("z", "", 1, 18), 2, 19))
}

func TestMerge(t *testing.T) {
	for _, at := range []string{"", "a", "g", "h", "p", "z", longest} {
		m := threeTablets(t, 3)
		wantKept(t, fmt.Sprintf("P12.1: merge at %q", at), m, 7, 1, merge(at), code(api.ErrArg))
	}
	// -c@1 c-g@1 g-p@2 p-s@2 s-@2
	m := threeTablets(t, 3)
	carried(t, m, split("c"), move("p", 2), split("s"))
	for i, x := range []struct {
		at   string
		want api.Answer
	}{
		{"c", toMerge("c", of("", "g"), 1, 0)},
		{"p", toMerge("p", of("g", "s"), 2, 0)},
		{"s", toMerge("s", of("p", ""), 2, 0)},
	} {
		x.want.Gen = 8 + i
		wantBegun(t, fmt.Sprintf("P12.1: merge at %q", x.at), m, 7, i+1, merge(x.at), x.want)
		m.Do(1, 1, leave(8+i))
	}
	for i, at := range []string{"", "\x00", "b", "c\x00", "f", "g", "gg", "o", "pp", "r\xff", "s\x00", "z"} {
		wantKept(t, fmt.Sprintf("P12.1: merge at %q", at), m, 7, 10+i, merge(at), code(api.ErrArg))
	}
}

// TestMergeOfOne: it has nothing ahead of it.
func TestMergeOfOne(t *testing.T) {
	for i, at := range []string{"", "\x00", "m", longest} {
		m := made(t, 2)
		wantKept(t, fmt.Sprintf("P12.1: merge of one at %q", at), m, 7, i+1, merge(at), code(api.ErrArg))
	}
}

// TestGens: the last Gen and one, each time, behind refused ones, and behind those that were given up.
func TestGens(t *testing.T) {
	m := made(t, 2)
	seq, gen := 0, 1
	next := func(c api.Command) api.Answer {
		seq++
		return m.Do(7, seq, c)
	}
	wantNext := func(c, end api.Command) {
		t.Helper()
		for _, wrong := range []api.Command{merge(""), split(""), move("m", 0), move("m", 3)} {
			wantAnswer(t, "P12.1: refused", next(wrong), code(api.ErrArg))
		}
		gen++
		if a := next(c); a.Code != api.OK || a.Gen != gen {
			t.Fatalf("P12.1: the plan behind Gen %d: %s", gen-1, show(a))
		}
		wantAnswer(t, "P12.1: under way", next(split("q")), code(api.ErrBusy))
		end.Gen = gen
		wantAnswer(t, "P12.1: Publish", next(end), code(api.OK))
	}
	for i := range 10 {
		wantNext(split("m"), publish(0))
		wantNext(split("z"), leave(0))
		wantNext(move("z", 2-i%2), leave(0))
		wantNext(merge("m"), publish(0))
		wantNext(move("", 2-i%2), leave(0))
		wantNext(move("", 2-i%2), publish(0))
	}
	wantPicture(t, "P12.1: behind all these", m, "-@1#61")
}

// TestBusy: one plan at a time, whatever is asked.
func TestBusy(t *testing.T) {
	for what, m := range masters(t) {
		if _, ok := m.Pending(); !ok {
			continue
		}
		for i, c := range []api.Command{move("", 2), move("m", 3), split("\xff\xff"), merge("m"), merge(""), split(""), move("m", 0)} {
			wantKept(t, fmt.Sprintf("P12.1: %s: %+v", what, c), m, 7, i+1, c, code(api.ErrBusy))
		}
	}
}

// TestRuns: the chapter's run and its examples.
func TestRuns(t *testing.T) {
	m := made(t, 3)
	wantKept(t, "example 1: a move to its own group", m, 1, 1, move("m", 1), code(api.ErrArg))
	wantNothing(t, "example 2: Publish(9) of none", m, 1, 2, publish(9), code(api.ErrNone))
	if a := m.Do(1, 2, split("m")); a.Code != api.OK || a.Gen != 2 {
		t.Errorf("run: Plan(DoSplit, m): %s", show(a))
	}
}
