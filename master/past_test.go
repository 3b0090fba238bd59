package master_test

import (
	"fmt"
	"maps"
	"math/rand"
	"slices"
	"strings"
	"testing"

	"wardmote/api"
	"wardmote/master"
)

// copied is the model by itself.
func (m *model) copied() *model {
	other := *m
	other.l, other.replies = slices.Clone(m.l), maps.Clone(m.replies)
	if m.plan != nil {
		plan := *m.plan
		other.plan = &plan
	}
	return &other
}

// body is what the model's Save would tell.
func (m *model) body() body {
	x := body{groups: m.groups, last: m.last, tablets: m.l}
	for _, client := range slices.Sorted(maps.Keys(m.replies)) {
		x.replies = append(x.replies, m.replies[client])
	}
	if m.plan != nil {
		x.do, x.at, x.to = m.plan.Do, m.plan.At, m.plan.To
	}
	return x
}

// names tells whether all that x tells of is cut at these names alone.
func (x body) names(l ...string) bool {
	ok := true
	see := func(s api.Span) {
		ok = ok && (s.Lo == "" || slices.Contains(l, s.Lo)) && (s.Hi == "" || slices.Contains(l, s.Hi))
	}
	for _, y := range x.tablets {
		see(y.Span)
	}
	see(of(x.at, ""))
	for _, y := range x.replies {
		see(y.answer.Span)
		see(of(y.answer.At, ""))
	}
	return ok
}

// fewRequests are bodies of all masters that two clients lead to with numbers
// and Gens up to some, by their bytes. They cut tablets at these names alone.
func fewRequests(t *testing.T, groups, numbers, gens int, names ...string) map[string]body {
	t.Helper()
	var asked []api.Command
	for _, at := range append(names, "") {
		asked = append(asked, split(at), merge(at))
		for to := range groups + 1 {
			asked = append(asked, move(at, to))
		}
	}
	seen := map[string]body{}
	l := []*model{newModel(groups)}
	for len(l) > 0 {
		m := l[len(l)-1]
		l = l[:len(l)-1]
		x := m.body()
		key := string(x.saved(t))
		if _, there := seen[key]; there {
			continue
		}
		seen[key] = x
		next := func(client, seq int, c api.Command) {
			n := m.copied()
			n.do(client, seq, c)
			if n.last <= gens {
				l = append(l, n)
			}
		}
		if m.plan != nil {
			next(0, 0, publish(m.last))
			next(0, 0, leave(m.last))
		}
		for client := range 2 {
			for seq := m.replies[client].seq + 1; seq <= numbers; seq++ {
				for _, c := range asked {
					next(client, seq, c)
				}
			}
		}
	}
	return seen
}

// partsOf are those of these bodies that are cut at this name or not at all: without their replies, and what clients were told, by the last Gens.
func partsOf(seen map[string]body, name string) ([]body, map[int][]reply) {
	var frames []body
	replies := map[int][]reply{}
	there := map[string]int{}
	isNew := func(what string) bool {
		there[what]++
		return there[what] == 1
	}
	for _, key := range slices.Sorted(maps.Keys(seen)) {
		x := seen[key]
		if !x.names(name) {
			continue
		}
		for _, y := range x.replies {
			if isNew(fmt.Sprint("reply ", x.last, " ", y.seq, " ", show(y.answer))) {
				replies[x.last] = append(replies[x.last], y)
			}
		}
		x.replies = nil
		if isNew(x.show()) {
			frames = append(frames, x)
		}
	}
	return frames, replies
}

// show is a body by plain signs.
func (x body) show() string {
	s := fmt.Sprintf("of %d groups, last Gen %d, %s", x.groups, x.last, showAll(x.tablets))
	if x.do != 0 {
		s += fmt.Sprintf("; under way %d at %q to %d", x.do, x.at, x.to)
	}
	for _, y := range x.replies {
		s += fmt.Sprintf("; client %d was told of %d: %s", y.client, y.seq, show(y.answer))
	}
	return s
}

// TestLoadOfFewRequests: of all that is made of the parts of masters that a few
// requests lead to, what these save is loaded, and nothing else. It is cut at
// one name alone; requests of which nothing is known may have cut elsewhere.
func TestLoadOfFewRequests(t *testing.T) {
	t.Parallel()
	last := strings.Repeat("\xff", 15)
	for _, most := range []struct {
		groups, numbers, gens int
		name                  string
		others                []string
	}{
		{1, 3, 4, "m", []string{"g", "t"}},
		{2, 2, 3, "m", []string{"g", "t"}},
		{2, 2, 4, "m", []string{"g", "t"}},
		{3, 2, 3, "m", []string{"g", "t"}},
		{1, 3, 4, last + "\xfe", []string{"g", last + "\xff"}},
		{1, 3, 4, last + "\xff", []string{"g"}},
		{1, 3, 4, "\x00", []string{"t"}},
	} {
		seen := fewRequests(t, most.groups, most.numbers, most.gens, append(most.others, most.name)...)
		frames, replies := partsOf(seen, most.name)
		rnd := rand.New(rand.NewSource(39))
		loads, others := 0, 0
		try := func(x body) {
			b := x.saved(t)
			_, saved := seen[string(b)]
			if _, ok := master.Load(b); ok != saved && !t.Failed() {
				t.Errorf("P12.2: Load: %v, and there was such a Save: %v: %s", ok, saved, x.show())
			}
			if saved {
				loads++
			} else {
				others++
			}
		}
		for _, key := range slices.Sorted(maps.Keys(seen)) {
			if x := seen[key]; x.names(most.name) {
				try(x)
			}
		}
		for range 20000 {
			x := frames[rnd.Intn(len(frames))]
			told := replies[x.last]
			for client := range 2 {
				if i := rnd.Intn(len(told) + 1); i < len(told) {
					x.replies = append(x.replies, reply{client, told[i].seq, told[i].answer})
				}
			}
			try(x)
		}
		if loads < 1000 || others < 5000 {
			t.Errorf("%+v: %d are loaded, %d are not", most, loads, others)
		}
	}
}

// told1 are replies of clients 0, 1 and so on, all of number 1: so there was no plan but these.
func told1(l ...api.Answer) []reply {
	var out []reply
	for i, a := range l {
		out = append(out, reply{i, 1, a})
	}
	return out
}

// several are replies of number 1, and one that leaves room for any plans of which nothing is known.
func several(l ...api.Answer) []reply {
	return append(told1(l...), reply{mostClient, greatest, code(api.ErrArg)})
}

// wantLoads asks whether x is loaded, as what it is.
func wantLoads(t *testing.T, what string, x body, want bool) {
	t.Helper()
	b := x.saved(t)
	if !want {
		wantNoLoad(t, what+": "+x.show(), b)
		return
	}
	wantSaved(t, "P12.2: "+what, loaded(t, what+": "+x.show(), b), b)
}

// TestLoadOfPlansInARow: what clients were told hangs on the plans ahead of it, whether these were carried out or not.
func TestLoadOfPlansInARow(t *testing.T) {
	all, low, high := whole()[0], halves()[0], halves()[1]
	moved := tab("", "", 2, 2)
	toTwo, cut := toMove("", all, 2, 2), firstSplit()
	for _, x := range []struct {
		what    string
		last    int
		tablets []api.Tablet
		replies []reply
		want    bool
	}{
		{"a merge where there was one tablet all the time", 3, whole(), told1(toTwo, toMerge("m", of("", ""), 1, 3)), false},
		{"a merge of one that was moved", 3, []api.Tablet{moved}, told1(toTwo, toMerge("m", of("", ""), 2, 3)), false},
		{"a merge behind a split that was given up", 3, whole(), told1(cut, toMerge("m", of("", ""), 1, 3)), false},
		{"a merge behind a split", 3, halves(), told1(cut, toMerge("m", of("", ""), 1, 3)), true},
		{"a merge behind a split, carried out", 3, []api.Tablet{tab("", "", 1, 3)}, told1(cut, toMerge("m", of("", ""), 1, 3)), true},
		{"a merge behind a split, as if it were moved too", 3, []api.Tablet{tab("", "", 2, 3)}, told1(cut, toMerge("m", of("", ""), 1, 3)), false},
		{"a merge elsewhere than the split", 3, halves(), told1(cut, toMerge("n", of("", ""), 1, 3)), false},
		{"a merge in another group", 3, halves(), told1(cut, toMerge("m", of("", ""), 2, 3)), false},
		{"a merge of a part", 3, halves(), told1(cut, toMerge("m", of("", "t"), 1, 3)), false},
		{"a merge, and nothing is known of the plan ahead of it", 3, halves(), several(toMerge("m", of("", ""), 1, 3)), true},
		{"a merge, and nothing is known, but it made both", 3, whole(), several(toMerge("m", of("", ""), 1, 3)), false},
		{"a merge in the other group, one plan ahead of it", 3, []api.Tablet{tab("", "", 2, 3)}, several(toMerge("m", of("", ""), 2, 3)), false},
		{"a merge in the other group, two plans ahead of it", 4, []api.Tablet{tab("", "", 2, 4)}, several(toMerge("m", of("", ""), 2, 4)), true},
		{"a merge in the other group, and parts of which each was moved", 5, []api.Tablet{tab("", "m", 2, 3), tab("m", "", 2, 4)}, several(toMerge("m", of("", ""), 2, 5)), true},
		{"a move of a part behind a move", 3, []api.Tablet{moved}, told1(toTwo, toMove("z", high, 2, 3)), false},
		{"a move of a part behind a split", 3, halves(), told1(cut, toMove("z", high, 2, 3)), true},
		{"a move of a part that begins elsewhere", 3, halves(), told1(cut, toMove("z", tab("n", "", 1, 2), 2, 3)), false},
		{"a move of all behind a split", 3, halves(), told1(cut, toMove("z", all, 2, 3)), false},
		{"a move of all behind a split that was given up", 3, whole(), told1(cut, toMove("z", all, 2, 3)), true},
		{"a move of all twice", 3, []api.Tablet{moved}, told1(toTwo, toMove("", all, 2, 3)), false},
		{"a move of all there and back", 3, []api.Tablet{tab("", "", 1, 3)}, told1(toTwo, toMove("", moved, 1, 3)), true},
		{"a move back of what was not moved", 3, whole(), told1(toTwo, toMove("", moved, 1, 3)), false},
		{"nothing was done till then, and yet there are two", 4, halves(), several(toMove("", all, 2, 3), toMerge("m", of("", ""), 1, 4)), false},
		{"nothing was done till then, and one plan behind it is not known", 5, halves(), several(toMove("", all, 2, 3), toMerge("m", of("", ""), 1, 5)), false},
		{"nothing was done till then, and a plan behind it cut it", 5, []api.Tablet{tab("", "m", 1, 4), tab("m", "", 1, 4)}, several(toMove("", all, 2, 3), toMerge("m", of("", ""), 1, 5)), true},
		{"both parts of a split, and the plan was another one", 3, halves(), told1(toSplit("n", all, 2), toMove("", low, 2, 3)), false},
		{"a split, and then one of what it left alone", 4, []api.Tablet{low, tab("m", "t", 1, 3), tab("t", "", 1, 3)}, told1(cut, toSplit("t", high, 3), toMove("a", low, 2, 4)), true},
		{"a split, and then one of what it cut", 4, []api.Tablet{low, tab("m", "t", 1, 3), tab("t", "", 1, 3)}, told1(cut, toSplit("t", high, 3), toMove("z", high, 2, 4)), false},
	} {
		wantLoads(t, x.what, body{groups: 2, last: x.last, tablets: x.tablets, replies: x.replies}, x.want)
	}
}

// TestLoadOfPlansLongAgo: many plans behind, of which nothing is known, may lead to any tablets, but not to other plans ahead of them.
func TestLoadOfPlansLongAgo(t *testing.T) {
	all, low, high := whole()[0], halves()[0], halves()[1]
	toTwo, cut := toMove("", all, 2, 2), firstSplit()
	for _, x := range []struct {
		l    []api.Answer
		want bool
	}{
		{[]api.Answer{cut, toMerge("m", of("", ""), 1, 3)}, true},
		{[]api.Answer{cut, toMove("z", high, 2, 3)}, true},
		{[]api.Answer{cut, toMove("z", high, 2, 3), toMove("a", low, 2, 4), toMerge("m", of("", ""), 2, 5)}, true},
		{[]api.Answer{cut, toMove("z", all, 2, 3)}, true},
		{[]api.Answer{toTwo, toSplit("m", tab("", "", 2, 2), 3), toSplit("t", tab("m", "", 2, 3), 4)}, true},
		{[]api.Answer{toTwo, toMerge("m", of("", ""), 1, 3)}, false},
		{[]api.Answer{toTwo, toMerge("m", of("", ""), 2, 3)}, false},
		{[]api.Answer{cut, toMerge("n", of("", ""), 1, 3)}, false},
		{[]api.Answer{cut, toMove("z", high, 2, 3), toMerge("m", of("", ""), 2, 4)}, false},
		{[]api.Answer{cut, toMove("z", all, 2, 3), toMerge("m", of("", ""), 1, 4)}, false},
		{[]api.Answer{toTwo, toMove("z", tab("m", "", 2, 2), 1, 3)}, false},
		{[]api.Answer{toTwo, toSplit("m", tab("", "", 2, 2), 3), toSplit("t", tab("n", "", 2, 3), 4)}, false},
		{[]api.Answer{cut, toSplit("t", high, 3), toMerge("t", of("", ""), 1, 4)}, false},
	} {
		for _, tablets := range [][]api.Tablet{
			{tab("", "", 2, 40)},
			{tab("", "g", 2, 40), tab("g", "", 1, 31)},
			{tab("", "g", 2, 38), tab("g", "m", 1, 39), tab("m", "p", 2, 31), tab("p", "q", 1, 30), tab("q", "t", 1, 28), tab("t", "", 2, 35)},
		} {
			b := body{groups: 2, last: 40, tablets: tablets, replies: append(told1(x.l...), reply{100, 90, code(api.ErrArg)})}
			wantLoads(t, "plans long ago", b, x.want)
		}
	}
}

// TestLoadOfTooFewPlans: tablets that more plans are needed for than there were.
func TestLoadOfTooFewPlans(t *testing.T) {
	for _, x := range []struct {
		groups, last int
		tablets      []api.Tablet
		want         bool
	}{
		{2, 2, []api.Tablet{tab("", "", 2, 2)}, true},
		{2, 2, []api.Tablet{tab("", "", 1, 2)}, false},
		{1, 3, []api.Tablet{tab("", "", 1, 3)}, true},
		{2, 3, []api.Tablet{tab("", "", 1, 3)}, true},
		{2, 2, []api.Tablet{tab("", "m", 2, 2), tab("m", "", 2, 2)}, false},
		{2, 3, []api.Tablet{tab("", "m", 2, 3), tab("m", "", 2, 3)}, true},
		{2, 3, []api.Tablet{tab("", "m", 2, 3), tab("m", "", 1, 2)}, true},
		{2, 3, []api.Tablet{tab("", "m", 2, 2), tab("m", "", 1, 3)}, false},
		{3, 4, []api.Tablet{tab("", "m", 2, 3), tab("m", "", 3, 4)}, true},
		{3, 3, []api.Tablet{tab("", "m", 2, 2), tab("m", "", 3, 3)}, false},
		{1, 3, []api.Tablet{tab("", "m", 1, 2), tab("m", "", 1, 3)}, false},
		// Cut at some other name, cut at m, and both parts behind m as one again.
		{1, 4, []api.Tablet{tab("", "m", 1, 3), tab("m", "", 1, 4)}, true},
		{1, 4, []api.Tablet{tab("", "m", 1, 2), tab("m", "", 1, 4)}, true},
		{1, 4, []api.Tablet{tab("", "m", 1, 2), tab("m", "", 1, 3)}, false},
		// Behind the last of all names nothing can be cut.
		{1, 4, []api.Tablet{tab("", strings.Repeat("\xff", 16), 1, 2), tab(strings.Repeat("\xff", 16), "", 1, 4)}, false},
		{1, 4, []api.Tablet{tab("", strings.Repeat("\xff", 15)+"\xfe", 1, 2), tab(strings.Repeat("\xff", 15)+"\xfe", "", 1, 4)}, true},
		{3, 3, manyOf(2, 3, 3), true},
		{3, 3, manyOf(3, 3, 2), true},
		{3, 3, manyOf(3, 2, 3), false},
		{3, 9, manyOf(9, 2, 8), false},
		{3, 9, manyOf(9, 3, 8), true},
		{3, 1 << 20, manyOf(1<<20, 2, 1<<19), false},
		{3, 1 << 20, manyOf(1<<20, 3, 1<<19), true},
	} {
		wantLoads(t, "tablets", body{groups: x.groups, last: x.last, tablets: x.tablets, replies: several()}, x.want)
	}
}

// TestLoadOfNumbersUnderWay: who was told that a plan may not be was told so when none was under way.
func TestLoadOfNumbersUnderWay(t *testing.T) {
	for _, x := range []struct {
		last int
		l    []reply
		want bool
	}{
		{2, []reply{{1, 1, firstSplit()}}, true},
		{2, []reply{{1, 1, code(api.ErrArg)}}, false},
		{2, []reply{{1, 2, code(api.ErrArg)}}, false},
		{2, []reply{{1, greatest, code(api.ErrArg)}}, false},
		{2, []reply{{1, 1, code(api.ErrBusy)}}, false},
		{2, []reply{{1, 2, code(api.ErrBusy)}}, true},
		{2, []reply{{1, 1, code(api.ErrBusy)}, {2, 2, code(api.ErrArg)}}, false},
		{2, []reply{{1, 1, code(api.ErrBusy)}, {2, 1, firstSplit()}, {3, 1, code(api.ErrArg)}}, true},
		{3, []reply{{1, 2, code(api.ErrBusy)}}, false},
		{3, []reply{{1, 3, code(api.ErrBusy)}}, true},
		{3, []reply{{1, 2, code(api.ErrBusy)}, {2, 2, code(api.ErrArg)}}, true},
		{3, []reply{{1, 1, code(api.ErrBusy)}, {2, 3, code(api.ErrArg)}}, false},
		{3, []reply{{1, 1, toSplit("m", whole()[0], 3)}, {2, 2, code(api.ErrArg)}}, true},
		{3, []reply{{1, 1, toSplit("m", whole()[0], 3)}, {2, 1, code(api.ErrArg)}}, false},
	} {
		wantLoads(t, "a plan is under way", body{groups: 2, last: x.last, tablets: whole(), replies: x.l, do: api.DoSplit, at: "m"}, x.want)
	}
}

// TestLoadOfFull: who was told that there are MaxTablets was told so when there were.
func TestLoadOfFull(t *testing.T) {
	most := full(t, 2).All()
	fewer := arranged(t, 2, cuts("abcdefghijklmn")...).All()
	merged := carried(t, full(t, 2), merge("b")).All()
	told := []reply{{1, greatest, code(api.ErrFull)}, {2, greatest, code(api.ErrArg)}}
	one := []api.Tablet{tab("", "", 1, 31)}
	for _, x := range []struct {
		what    string
		last    int
		tablets []api.Tablet
		replies []reply
		want    bool
	}{
		{"MaxTablets", 16, most, told, true},
		{"MaxTablets, and plans that were given up", 90, most, told, true},
		{"one less, and a plan for each", 15, fewer, told, false},
		{"one less, and a plan more", 16, fewer, told, false},
		{"one less, though there are plans enough", 90, fewer, told, false},
		{"one less, of which one was merged", 17, merged, told, true},
		{"one less, of which one was cut last, and too few plans", 18, cutLast(fewer, 18), told, false},
		{"one less, of which one was cut last, and plans enough", 19, cutLast(fewer, 19), told, true},
		{"one less, of which one was cut last, as it was told", 19, cutLast(fewer, 19), append(slices.Clone(told), reply{3, 1, toSplit("n", tab("m", "", 1, 18), 19)}), true},
		{"one, and 15 plans", 16, whole(), told, false},
		{"one, with all plans given up", 90, whole(), told, false},
		{"one, with a plan less than is needed", 30, []api.Tablet{tab("", "", 1, 30)}, told, false},
		{"one, with as many plans as are needed", 31, one, told, true},
		{"one since too early", 90, []api.Tablet{tab("", "", 1, 16)}, told, false},
		{"two that were never more", 90, halves(), told, false},
		{"as many numbers as plans", 31, one, []reply{{1, 16, code(api.ErrFull)}, {2, 16, code(api.ErrArg)}}, true},
		{"too few numbers", 31, one, []reply{{1, 16, code(api.ErrFull)}, {2, 15, code(api.ErrArg)}}, false},
		{"too few numbers behind it", 31, one, []reply{{1, 17, code(api.ErrFull)}, {2, 15, code(api.ErrArg)}}, false},
		{"none of others", 31, one, told[:1], false},
		{"too few numbers behind it, whatever there was ahead", 31, one, []reply{{1, greatest, code(api.ErrFull)}, {2, 15, code(api.ErrArg)}}, false},
		{"a move among the first", 31, one, []reply{{1, 90, code(api.ErrFull)}, {2, 90, code(api.ErrArg)}, {3, 1, toMove("", whole()[0], 2, 2)}}, false},
		{"a move among the last", 31, one, []reply{{1, 90, code(api.ErrFull)}, {2, 90, code(api.ErrArg)}, {3, 1, toMove("z", tab("m", "", 1, 16), 2, 30)}}, false},
	} {
		wantLoads(t, x.what, body{groups: 2, last: x.last, tablets: x.tablets, replies: x.replies}, x.want)
	}
}

// cutLast are these tablets, of which the last two are cut by the plan with gen.
func cutLast(l []api.Tablet, gen int) []api.Tablet {
	l = slices.Clone(l)
	l[len(l)-2].Gen, l[len(l)-1].Gen = gen, gen
	return l
}

// TestLoadOfSplitsOfMany: no plan cuts one of MaxTablets.
func TestLoadOfSplitsOfMany(t *testing.T) {
	most := full(t, 2).All()
	last := most[len(most)-1]
	for _, x := range []struct {
		tablets []api.Tablet
		plan    api.Answer
		want    bool
	}{
		{most, toSplit("z", last, 17), false},
		{most, toMove("z", last, 2, 17), true},
		{most, toMerge("o", of("n", ""), 1, 17), true},
		{[]api.Tablet{tab("", "", 1, 90)}, toSplit("z", last, 17), true},
	} {
		wantLoads(t, "a plan of many", body{groups: 2, last: 90, tablets: x.tablets, replies: several(x.plan)}, x.want)
	}
	b := body{groups: 2, last: 16, tablets: most, replies: several()}
	wantLoads(t, "many", b, true)
	b.last, b.do, b.at = 17, api.DoSplit, "z"
	wantLoads(t, "many, and one more is under way", b, false)
}

// TestLoadOfWhatWaited: plans that left alone what others had made long ago, of
// which nothing is known but what was told between.
func TestLoadOfWhatWaited(t *testing.T) {
	m := made(t, 1)
	next := 0
	by := func(client int, c api.Command, to int) {
		t.Helper()
		next++
		a := m.Do(client, next, c)
		if a.Code != api.OK {
			t.Fatalf("P12.1: %+v: %s", c, show(a))
		}
		m.Do(0, 0, api.Command{Kind: api.Publish, Gen: a.Gen, To: to})
		// The client's last answer is a refusal, unless it is below 10.
		next++
		if client >= 10 {
			wantAnswer(t, "P12.1: refused", m.Do(client, next, merge("")), code(api.ErrArg))
		}
		b := m.Save()
		what := fmt.Sprint("behind number ", next)
		wantSaved(t, "P12.2: "+what, loaded(t, what+": "+picture(m), b), b)
	}
	// A merge that is given up asks for both parts, which are there then for a while.
	by(1, split("z"), -1)
	by(10, split("m"), 0)
	by(2, merge("m"), -1)
	by(10, split("g"), -1)
	by(10, merge("m"), 0)
	wantPicture(t, "P12.1: merged", m, "-@1#6")

	// So it does where just one of both is there for a while.
	m = made(t, 2)
	by(10, split("m"), 0)
	by(10, move("m", 2), 0)
	by(1, split("t"), -1)
	by(10, move("m", 1), 0)
	by(2, merge("m"), -1)
	by(10, move("a", 2), 0)
	by(10, split("x"), -1)
	by(10, move("m", 2), 0)
	wantPicture(t, "P12.1: moved", m, "-m@2#7 m-@2#9")

	// A merge that leaves room for a split asks for its parts ahead of that.
	m = full(t, 2)
	next = 100
	by(1, move("c", 2), -1)
	by(maker, merge("d"), 0)
	by(maker, split("z"), 0)
	by(maker, move("z", 2), -1)
	by(maker, move("c", 2), 0)
	if len(m.All()) != maxTablets || m.All()[3] != tab("c", "e", 2, 21) {
		t.Errorf("P12.1: moved: %s", picture(m))
	}
}
