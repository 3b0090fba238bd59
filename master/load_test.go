package master_test

import (
	"fmt"
	"slices"
	"testing"

	"wardmote/api"
	"wardmote/octet"
)

// whole is a new master's tablets.
func whole() []api.Tablet { return []api.Tablet{tab("", "", 1, 1)} }

// halves are those behind a first split.
func halves() []api.Tablet { return []api.Tablet{tab("", "m", 1, 2), tab("m", "", 1, 2)} }

// told are replies of clients 0, 1 and so on, all of number 9.
func told(l ...api.Answer) []reply {
	var out []reply
	for i, a := range l {
		out = append(out, reply{i, 9, a})
	}
	return out
}

// firstSplit is the plan behind halves.
func firstSplit() api.Answer { return toSplit("m", tab("", "", 1, 1), 2) }

// TestTheForm: the bytes of the other tests here are those of masters.
func TestTheForm(t *testing.T) {
	m := made(t, 3)
	wantSaved(t, "a new one", m, body{groups: 3, last: 1, tablets: whole()}.saved(t))
	m.Do(0, 9, split("m"))
	wantSaved(t, "a plan under way", m, body{groups: 3, last: 2, tablets: whole(), replies: told(firstSplit()), do: api.DoSplit, at: "m"}.saved(t))
	m.Do(1, 9, publish(2))
	wantSaved(t, "carried out", m, body{groups: 3, last: 2, tablets: halves(), replies: told(firstSplit())}.saved(t))
	m.Do(1, 9, merge(""))
	second := toMove("z", tab("m", "", 1, 2), 3, 3)
	m.Do(2, 9, move("z", 3))
	wantSaved(t, "a second one", m, body{groups: 3, last: 3, tablets: halves(), replies: told(firstSplit(), code(api.ErrArg), second), do: api.DoMove, at: "z", to: 3}.saved(t))
}

// TestLoadOfNoTablets: bytes of the right form, of tablets and plans that no commands lead to.
func TestLoadOfNoTablets(t *testing.T) {
	busy := told(code(api.ErrBusy))
	var many []api.Tablet
	for i := range maxTablets {
		many = append(many, tab(fmt.Sprint("x", string(rune('a'+i))), fmt.Sprint("x", string(rune('b'+i))), 1, i+2))
	}
	many[0].Span.Lo, many[maxTablets-1].Span.Hi = "", ""
	for _, x := range []struct {
		what string
		body
	}{
		{"no groups", body{groups: 0, last: 1, tablets: whole()}},
		{"too many groups", body{groups: maxGroups + 1, last: 1, tablets: whole()}},
		{"255 groups", body{groups: 255, last: 1, tablets: whole()}},
		{"the last Gen is 0", body{groups: 2, last: 0, tablets: whole()}},
		{"the last Gen is above 2^30", body{groups: 2, last: greatest + 1, tablets: whole(), replies: []reply{{1, greatest, code(api.ErrArg)}, {2, greatest, code(api.ErrArg)}}}},
		{"the last Gen is 2^32 - 1", body{groups: 2, last: 1<<32 - 1, tablets: whole(), replies: busy}},
		{"no tablets", body{groups: 2, last: 1}},
		{"tablets that do not cover all names", body{groups: 2, last: 2, tablets: halves()[:1], replies: busy}},
		{"tablets in another order", body{groups: 2, last: 2, tablets: []api.Tablet{halves()[1], halves()[0]}, replies: busy}},
		{"a tablet in group 0", body{groups: 2, last: 2, tablets: []api.Tablet{tab("", "", 0, 2)}, replies: busy}},
		{"a tablet in a group that is none", body{groups: 2, last: 2, tablets: []api.Tablet{tab("", "", 3, 2)}, replies: busy}},
		{"the first tablet in another group", body{groups: 2, last: 2, tablets: []api.Tablet{tab("", "", 2, 1)}, replies: busy}},
		{"a part with the first Gen", body{groups: 2, last: 3, tablets: []api.Tablet{tab("", "m", 1, 1), tab("m", "", 1, 2)}, replies: busy}},
		{"both parts with the first Gen", body{groups: 2, last: 3, tablets: []api.Tablet{tab("", "m", 1, 1), tab("m", "", 1, 1)}, replies: busy}},
		{"a Gen above the last one", body{groups: 2, last: 2, tablets: []api.Tablet{tab("", "", 2, 3)}, replies: busy}},
		{"a Gen of the plan under way", body{groups: 2, last: 2, tablets: []api.Tablet{tab("", "", 2, 2)}, replies: busy, do: api.DoSplit, at: "m"}},
		{"more tablets than Gens", body{groups: 2, last: 3, tablets: manyOf(2, 2, 3, 3), replies: busy}},
		{"as many tablets as Gens, but one is under way", body{groups: 2, last: 4, tablets: manyOf(2, 2, 3, 3), replies: busy, do: api.DoSplit, at: "z"}},
		{"three with one Gen", body{groups: 2, last: 9, tablets: manyOf(3, 3, 3), replies: busy}},
		{"two with one Gen that do not touch", body{groups: 2, last: 9, tablets: manyOf(3, 4, 3), replies: busy}},
		{"two with one Gen in two groups", body{groups: 2, last: 9, tablets: []api.Tablet{tab("", "m", 1, 3), tab("m", "", 2, 3)}, replies: busy}},
		{"no plan, and a name", body{groups: 2, last: 1, tablets: whole(), at: "m"}},
		{"no plan, and a To", body{groups: 2, last: 1, tablets: whole(), to: 1}},
		{"a plan that is none", body{groups: 2, last: 2, tablets: whole(), replies: busy, do: api.DoMerge + 1, at: "m"}},
		{"plan 255", body{groups: 2, last: 2, tablets: whole(), replies: busy, do: 255, at: "m"}},
		{"a plan at a name that is too long", body{groups: 2, last: 2, tablets: whole(), replies: busy, do: api.DoSplit, at: tooLong}},
		{"a plan with the first Gen", body{groups: 2, last: 1, tablets: whole(), do: api.DoSplit, at: "m"}},
		{"a split with a To", body{groups: 2, last: 2, tablets: whole(), replies: busy, do: api.DoSplit, at: "m", to: 1}},
		{"a split at a Lo", body{groups: 2, last: 3, tablets: halves(), replies: busy, do: api.DoSplit, at: "m"}},
		{"a split of MaxTablets", body{groups: 2, last: 18, tablets: many, replies: []reply{{1, 90, code(api.ErrBusy)}}, do: api.DoSplit, at: "z"}},
		{"a move to its own group", body{groups: 2, last: 2, tablets: whole(), replies: busy, do: api.DoMove, at: "m", to: 1}},
		{"a move to group 0", body{groups: 2, last: 2, tablets: whole(), replies: busy, do: api.DoMove, at: "m", to: 0}},
		{"a move to a group that is none", body{groups: 2, last: 2, tablets: whole(), replies: busy, do: api.DoMove, at: "m", to: 3}},
		{"a merge of one", body{groups: 2, last: 2, tablets: whole(), replies: busy, do: api.DoMerge, at: ""}},
		{"a merge at no Lo", body{groups: 2, last: 3, tablets: halves(), replies: busy, do: api.DoMerge, at: "n"}},
		{"a merge with a To", body{groups: 2, last: 3, tablets: halves(), replies: busy, do: api.DoMerge, at: "m", to: 2}},
		{"a merge of two groups", body{groups: 2, last: 4, tablets: []api.Tablet{tab("", "m", 2, 3), tab("m", "", 1, 2)}, replies: busy, do: api.DoMerge, at: "m"}},
	} {
		wantNoLoad(t, x.what, x.saved(t))
	}
}

// manyOf are tablets with these Gens, cut at a, b, c and so on, all in group 1.
func manyOf(gens ...int) []api.Tablet {
	var l []api.Tablet
	lo := ""
	for i, gen := range gens {
		hi := string(rune('a' + i))
		l = append(l, tab(lo, hi, 1, gen))
		lo = hi
	}
	l[len(l)-1].Span.Hi = ""
	return l
}

// TestLoadOfNoReplies: caches with what no request for a plan was told.
func TestLoadOfNoReplies(t *testing.T) {
	all, low, high := tab("", "", 1, 1), halves()[0], halves()[1]
	with := func(a api.Answer, f func(a *api.Answer)) api.Answer {
		f(&a)
		return a
	}
	for _, x := range []struct {
		what string
		l    []api.Answer
	}{
		{"OK alone", []api.Answer{firstSplit(), code(api.OK)}},
		{"where a tablet is", []api.Answer{firstSplit(), {Span: low.Span, Group: 1, Gen: 2}}},
		{"ErrNone", []api.Answer{firstSplit(), code(api.ErrNone)}},
		{"ErrOld", []api.Answer{firstSplit(), code(api.ErrOld)}},
		{"ErrKind", []api.Answer{firstSplit(), code(api.ErrKind)}},
		{"Code 255", []api.Answer{firstSplit(), code(255)}},
		{"ErrFull, too early", []api.Answer{firstSplit(), code(api.ErrFull)}},
		{"a refusal with a plan", []api.Answer{firstSplit(), with(toMove("z", high, 2, 3), func(a *api.Answer) { a.Code = api.ErrArg })}},
		{"a refusal with a Gen", []api.Answer{firstSplit(), {Code: api.ErrBusy, Gen: 3}}},
		{"a plan that is none", []api.Answer{firstSplit(), with(toMove("z", high, 2, 3), func(a *api.Answer) { a.Do = 4 })}},
		{"a plan with a State", []api.Answer{firstSplit(), with(toMove("z", high, 2, 3), func(a *api.Answer) { a.State = []byte("x") })}},
		{"a plan with a row", []api.Answer{firstSplit(), with(toMove("z", high, 2, 3), func(a *api.Answer) { a.Rows = []api.Named{{Name: "x"}} })}},
		{"a Gen above the last one", []api.Answer{firstSplit(), toMove("z", high, 2, 4)}},
		{"the first Gen", []api.Answer{code(api.ErrArg), toSplit("m", all, 1)}},
		{"Gen 0", []api.Answer{code(api.ErrArg), toSplit("m", all, 0)}},
		{"one Gen twice", []api.Answer{firstSplit(), firstSplit()}},
		{"one Gen of two plans", []api.Answer{toMove("z", high, 2, 3), toMove("a", low, 2, 3)}},
		{"Old is not below Gen", []api.Answer{firstSplit(), toMove("z", tab("m", "", 1, 3), 2, 3)}},
		{"Old 0, of a move", []api.Answer{firstSplit(), toMove("z", tab("m", "", 1, 0), 2, 3)}},
		{"Old 0, of a split", []api.Answer{firstSplit(), toSplit("z", tab("m", "", 1, 0), 3)}},
		{"Old 1, of a part", []api.Answer{firstSplit(), toMove("z", tab("m", "", 1, 1), 2, 3)}},
		{"Old 1, of another group", []api.Answer{firstSplit(), toMove("z", tab("", "", 2, 1), 1, 3)}},
		{"a move in its group", []api.Answer{firstSplit(), toMove("z", high, 1, 3)}},
		{"a move to group 0", []api.Answer{firstSplit(), toMove("z", high, 0, 3)}},
		{"a move to a group that is none", []api.Answer{firstSplit(), toMove("z", high, 3, 3)}},
		{"a move from a group that is none", []api.Answer{firstSplit(), toMove("z", tab("m", "", 3, 2), 1, 3)}},
		{"a move from group 0", []api.Answer{firstSplit(), toMove("z", tab("m", "", 0, 2), 1, 3)}},
		{"a move of a name that is not there", []api.Answer{firstSplit(), toMove("a", high, 2, 3)}},
		{"a split at a Lo", []api.Answer{firstSplit(), toSplit("m", high, 3)}},
		{"a split elsewhere", []api.Answer{firstSplit(), toSplit("a", high, 3)}},
		{"a split with a To", []api.Answer{firstSplit(), with(toSplit("z", high, 3), func(a *api.Answer) { a.To = 2 })}},
		{"a split in group 0", []api.Answer{firstSplit(), toSplit("z", tab("m", "", 0, 2), 3)}},
		{"a merge at a Lo", []api.Answer{firstSplit(), toMerge("", of("", ""), 1, 3)}},
		{"a merge with a To", []api.Answer{firstSplit(), with(toMerge("m", of("", ""), 1, 3), func(a *api.Answer) { a.To = 2 })}},
		{"a merge with an Old", []api.Answer{firstSplit(), with(toMerge("m", of("", ""), 1, 3), func(a *api.Answer) { a.Old = 2 })}},
		{"a merge in group 0", []api.Answer{firstSplit(), toMerge("m", of("", ""), 0, 3)}},
		{"a merge in a group that is none", []api.Answer{firstSplit(), toMerge("m", of("", ""), 3, 3)}},
		{"the first plan is a merge", []api.Answer{toMerge("m", of("", ""), 1, 2), code(api.ErrArg)}},
		{"another plan with a tablet's Gen", []api.Answer{toSplit("n", all, 2), code(api.ErrArg)}},
		{"another kind of plan with a tablet's Gen", []api.Answer{toMove("m", all, 2, 2), code(api.ErrArg)}},
	} {
		b := body{groups: 2, last: 3, tablets: halves(), replies: told(x.l...)}
		wantNoLoad(t, x.what, b.saved(t))
	}
	for what, a := range map[string]api.Answer{"the first plan is a merge": toMerge("m", of("", ""), 1, 2), "Gen 1": toSplit("m", all, 1)} {
		wantNoLoad(t, what, body{groups: 2, last: 2, tablets: whole(), replies: []reply{{1, 1, a}, {2, 9, code(api.ErrArg)}}}.saved(t))
	}
	wantNoLoad(t, "busy, and there was no plan", body{groups: 2, last: 1, tablets: whole(), replies: told(code(api.ErrBusy))}.saved(t))
	// With another plan in the last place each of the others is told.
	for _, a := range []api.Answer{toMove("z", high, 2, 3), toMove("a", low, 2, 3), toSplit("z", high, 3), toMerge("m", of("", ""), 1, 3), code(api.ErrArg), code(api.ErrBusy)} {
		b := body{groups: 2, last: 3, tablets: halves(), replies: told(firstSplit(), a)}.saved(t)
		wantSaved(t, "P12.2: a plan that was told", loaded(t, show(a), b), b)
	}
}

// TestLoadOfBytesThatAreNoAnswers: the cache itself takes any bytes.
func TestLoadOfBytesThatAreNoAnswers(t *testing.T) {
	head := body{groups: 2, last: 1, tablets: whole()}.saved(t)
	head = head[:len(head)-10]
	for _, answer := range []string{"", "\x00", "\x01", "any bytes at all"} {
		w := octet.New()
		w.Num(1)
		w.Byte(7)
		w.Num(9)
		w.Text([]byte(answer))
		w.Byte(0)
		w.Text(nil)
		w.Byte(0)
		wantNoLoad(t, fmt.Sprintf("a reply %q", answer), slices.Concat(head, w.Done()))
	}
}

// TestLoadOfOtherPlans: what was told of the Gen of the plan under way is that plan.
func TestLoadOfOtherPlans(t *testing.T) {
	high := halves()[1]
	b := body{groups: 3, last: 3, tablets: halves(), do: api.DoMove, at: "z", to: 2}
	for _, a := range []api.Answer{toMove("z", high, 3, 3), toMove("y", high, 2, 3), toSplit("z", high, 3), toMerge("m", of("", ""), 1, 3), toMove("a", halves()[0], 2, 3)} {
		b.replies = told(firstSplit(), a)
		wantNoLoad(t, "another plan than that under way: "+show(a), b.saved(t))
	}
	for _, a := range []api.Answer{toMove("z", high, 2, 3), code(api.ErrBusy)} {
		b.replies = told(firstSplit(), a)
		wantPicture(t, "P12.2: a plan under way", loaded(t, show(a), b.saved(t)), "-m@1#2 m-@1#2; "+show(toMove("z", high, 2, 3)))
	}
}

// TestLoadOfTooFewNumbers: each Gen was told, by a number of its own.
func TestLoadOfTooFewNumbers(t *testing.T) {
	plan := func(gen int) api.Answer { return toMove("m", tab("", "", 1, 1), 2, gen) }
	for _, x := range []struct {
		last int
		l    []reply
		ok   bool
	}{
		{1, nil, true},
		{2, nil, false},
		{2, []reply{{1, 1, code(api.ErrArg)}}, false},
		{2, []reply{{1, 2, code(api.ErrArg)}}, true},
		{2, []reply{{1, 1, plan(2)}}, true},
		{2, []reply{{1, 1, code(api.ErrBusy)}, {2, 1, code(api.ErrArg)}}, false},
		{3, []reply{{1, 2, plan(2)}}, false},
		{3, []reply{{1, 1, plan(3)}}, false},
		{3, []reply{{1, 2, plan(3)}}, true},
		{3, []reply{{1, 1, plan(3)}, {2, 1, plan(2)}}, true},
		{3, []reply{{1, 1, plan(3)}, {2, 1, code(api.ErrArg)}}, false},
		{3, []reply{{1, 1, plan(3)}, {2, 2, code(api.ErrArg)}}, true},
		{5, []reply{{1, 1, plan(5)}, {2, 90, plan(3)}}, false},
		{5, []reply{{1, 2, plan(5)}, {2, 90, plan(3)}}, true},
		{5, []reply{{1, 3, plan(5)}, {2, 1, plan(3)}}, true},
		{5, []reply{{1, 2, plan(5)}, {2, 1, plan(3)}}, false},
		{5, []reply{{1, 90, plan(4)}}, false},
		{5, []reply{{1, 4, code(api.ErrArg)}}, false},
		{5, []reply{{1, 5, code(api.ErrArg)}}, true},
		{greatest, []reply{{1, greatest - 1, plan(greatest)}}, true},
		{greatest, []reply{{1, greatest - 2, plan(greatest)}}, false},
		{greatest, []reply{{1, greatest, code(api.ErrArg)}}, true},
		{greatest, []reply{{1, greatest, code(api.ErrFull)}, {2, greatest, code(api.ErrFull)}, {3, greatest, code(api.ErrFull)}}, true},
	} {
		b := body{groups: 2, last: x.last, tablets: whole(), replies: x.l}.saved(t)
		what := fmt.Sprintf("the last Gen is %d, told is %v", x.last, x.l)
		if !x.ok {
			wantNoLoad(t, what, b)
			continue
		}
		wantSaved(t, "P12.2: "+what, loaded(t, what, b), b)
	}
}

// TestLastOfAllGens: a plan with Gen 2^30 is carried out; behind it there is none that could be told.
func TestLastOfAllGens(t *testing.T) {
	m := loaded(t, "a Gen is left", body{groups: 2, last: greatest - 1, tablets: whole(), replies: []reply{{1, greatest, code(api.ErrArg)}}}.saved(t))
	wantAnswer(t, "P12.1: the last of all Gens", m.Do(2, 1, move("m", 2)), toMove("m", tab("", "", 1, 1), 2, greatest))
	m = loaded(t, "the last of all Gens is under way", m.Save())
	wantPicture(t, "P12.1: the last of all Gens", m, "-@1#1; "+show(toMove("m", tab("", "", 1, 1), 2, greatest)))
	wantAnswer(t, "P12.1: the last of all Gens, published", m.Do(2, 1, publish(greatest)), code(api.OK))
	wantPicture(t, "P12.1: the last of all Gens, published", m, fmt.Sprintf("-@2#%d", greatest))
	for i, c := range []api.Command{move("m", 1), split("m")} {
		was := picture(m)
		wantAnswer(t, "no Gen is left", m.Do(2, 2+i, c), code(api.ErrFull))
		wantAnswer(t, "no Gen is left, again", m.Do(2, 2+i, c), code(api.ErrFull))
		wantPicture(t, "no Gen is left", m, was)
	}
	wantAnswer(t, "no Gen is left, and ErrArg ahead of it", m.Do(2, 9, merge("")), code(api.ErrArg))
	wantSaved(t, "no Gen is left", loaded(t, "no Gen is left", m.Save()), m.Save())
}
