package master

import (
	"fmt"
	"math/rand"
	"slices"
	"strings"
	"testing"

	"wardmote/api"
)

// These ask whether plans may have led to tablets, of masters that may have only
// a few tablets: so few that all pasts can be tried.

// all tries all pasts of a question: what plans lead to from the first tablet on.
type all struct {
	question
	cuts  []string // where tablets may be cut
	told  map[int]api.Answer
	asked map[int]bool // Gens that are told of: of others it is all one which they are
}

// state is what there was at a time, and whether there were as many tablets as there may be, since that is asked.
type state struct {
	l    []api.Tablet
	full bool
}

func (a *all) mayHaveBeen() bool {
	a.told, a.asked = map[int]api.Answer{}, map[int]bool{1: true}
	for _, plan := range a.plans {
		a.told[plan.Gen] = plan
		a.asked[plan.Old] = true
	}
	for _, x := range a.tablets {
		a.asked[x.Gen] = true
	}
	now := map[string]state{}
	a.add(now, []api.Tablet{first()}, false, 1)
	for gen := 2; gen <= a.gen; gen++ {
		then := map[string]state{}
		for _, s := range now {
			for _, l := range a.behind(s.l, gen) {
				a.add(then, l, s.full, gen)
			}
		}
		now = then
	}
	for _, s := range now {
		if slices.Equal(s.l, a.tablets) && (a.full == 0 || s.full) {
			return true
		}
	}
	return false
}

func (a *all) add(to map[string]state, l []api.Tablet, full bool, gen int) {
	full = full || a.full > 0 && gen >= a.full && len(l) == a.most
	to[fmt.Sprint(l, full)] = state{l, full}
}

// behind are the tablets that there may be behind the plan with gen.
func (a *all) behind(l []api.Tablet, gen int) [][]api.Tablet {
	label := 0
	if a.asked[gen] {
		label = gen
	}
	if plan, told := a.told[gen]; told {
		then, ok := behindPlan(l, plan, a.most)
		if !ok {
			return nil
		}
		for i := range then {
			if then[i].Gen == gen {
				then[i].Gen = label
			}
		}
		return [][]api.Tablet{l, then}
	}
	out := [][]api.Tablet{l}
	for i, x := range l {
		for g := 1; g <= a.groups; g++ {
			if g != x.Group {
				out = append(out, moved(l, i, g, label))
			}
		}
		for _, at := range a.cuts {
			if len(l) < a.most && parts(x.Span, at) {
				out = append(out, cut(l, i, at, label))
			}
		}
		if i > 0 && l[i-1].Group == x.Group {
			out = append(out, merged(l, i, label))
		}
	}
	return out
}

// behindPlan are the tablets that there are when the plan was carried out; false, if it can't have been told then.
func behindPlan(l []api.Tablet, plan api.Answer, most int) ([]api.Tablet, bool) {
	i := find(l, plan.At)
	x := l[i]
	isOf := x == api.Tablet{Span: plan.Span, Group: plan.Group, Gen: plan.Old}
	switch plan.Do {
	case api.DoMove:
		return moved(l, i, plan.To, plan.Gen), isOf
	case api.DoSplit:
		return cut(l, i, plan.At, plan.Gen), isOf && len(l) < most
	}
	if i == 0 || x.Span.Lo != plan.At {
		return nil, false
	}
	both := api.Span{Lo: l[i-1].Span.Lo, Hi: x.Span.Hi}
	return merged(l, i, plan.Gen), both == plan.Span && x.Group == plan.Group && l[i-1].Group == plan.Group
}

// find tells where the tablet is that has name.
func find(l []api.Tablet, name string) int {
	i := len(l) - 1
	for l[i].Span.Lo > name {
		i--
	}
	return i
}

func moved(l []api.Tablet, i, to, gen int) []api.Tablet {
	l = slices.Clone(l)
	l[i].Group, l[i].Gen = to, gen
	return l
}

func cut(l []api.Tablet, i int, at string, gen int) []api.Tablet {
	below, above := l[i], l[i]
	below.Span.Hi, above.Span.Lo = at, at
	below.Gen, above.Gen = gen, gen
	return slices.Concat(l[:i], []api.Tablet{below, above}, l[i+1:])
}

func merged(l []api.Tablet, i, gen int) []api.Tablet {
	both := l[i-1]
	both.Span.Hi, both.Gen = l[i].Span.Hi, gen
	return slices.Concat(l[:i-1], []api.Tablet{both}, l[i+1:])
}

// place is where tablets are cut: at names that are told of, and at others.
type place struct {
	most         int
	told, others []string
}

func (x place) all() []string { return slices.Sorted(slices.Values(slices.Concat(x.told, x.others))) }

// tells tells whether all tablets begin at names that are told of.
func (x place) tells(l ...string) bool {
	return !slices.ContainsFunc(l, func(at string) bool { return at != "" && !slices.Contains(x.told, at) })
}

// places have as many other names in each gap as could ever be of use, or all that there are.
func places() []place {
	a, last := strings.Repeat("a", 15), strings.Repeat("\xff", 15)
	return []place{
		{2, []string{"d", "h"}, []string{"b", "f", "j"}},
		{3, []string{"d", "h"}, []string{"b", "c", "f", "g", "j", "k"}},
		{4, []string{"d"}, []string{"a", "b", "c", "f", "g", "k"}},
		{3, []string{"d", "h", "p"}, []string{"b", "f", "j", "q"}},
		{3, []string{a + "b", a + "d"}, []string{"X", "Y", a + "c", "q", "r"}},
		{4, []string{a + "b", a + "c"}, []string{"X", "Y", "Z", "q", "r", "s"}},
		{3, []string{last + "\xfe", last + "\xff"}, []string{"a", "b"}},
		{3, []string{"\x00"}, []string{"a", "b", "c"}},
	}
}

// someQuestion is one of plans and tablets that there were; the plans are all told, whatever they tell of.
func someQuestion(rnd *rand.Rand, x place) question {
	q := question{groups: 1 + rnd.Intn(2) + rnd.Intn(2)*rnd.Intn(2), most: x.most, gen: 4 + rnd.Intn(6), tablets: []api.Tablet{first()}}
	carry := 3 + rnd.Intn(8)
	var full []int
	for gen := 2; gen <= q.gen; {
		plan, ok := somePlan(rnd, x, q, gen)
		if !ok {
			continue
		}
		then, ok := behindPlan(q.tablets, plan, q.most)
		if !ok {
			continue
		}
		q.plans = append(q.plans, plan)
		if rnd.Intn(10) < carry {
			q.tablets = then
		}
		if len(q.tablets) == q.most {
			full = append(full, gen)
		}
		gen++
	}
	if len(full) > 0 && rnd.Intn(2) == 0 {
		q.full = 1 + rnd.Intn(full[len(full)-1])
	}
	return q
}

// somePlan is one that may be asked for; false, if it is refused as it stands.
func somePlan(rnd *rand.Rand, x place, q question, gen int) (api.Answer, bool) {
	names := x.told
	if rnd.Intn(4) == 0 {
		names = x.all()
	}
	at := names[rnd.Intn(len(names))]
	if rnd.Intn(3) == 0 {
		at = q.tablets[rnd.Intn(len(q.tablets))].Span.Lo
	}
	i := find(q.tablets, at)
	t := q.tablets[i]
	a := api.Answer{At: at, Span: t.Span, Group: t.Group, Gen: gen, Old: t.Gen}
	switch rnd.Intn(4) {
	case 0:
		a.Do, a.To = api.DoMove, 1+rnd.Intn(q.groups)
		return a, a.To != a.Group
	case 1, 2:
		a.Do = api.DoSplit
		return a, parts(t.Span, at)
	}
	if i > 0 {
		a.Span.Lo = q.tablets[i-1].Span.Lo
	}
	a.Do, a.Old = api.DoMerge, 0
	return a, i > 0
}

// turned is q where something is told in another way.
func turned(rnd *rand.Rand, x place, q question) question {
	q.plans, q.tablets = slices.Clone(q.plans), slices.Clone(q.tablets)
	i := rnd.Intn(len(q.tablets))
	switch rnd.Intn(4) {
	case 0:
		q.tablets[i].Gen = 1 + rnd.Intn(q.gen)
	case 1:
		q.tablets[i].Group = 1 + rnd.Intn(q.groups)
	case 2:
		q.full = 1 + rnd.Intn(q.gen)
	}
	if len(q.plans) == 0 {
		return q
	}
	plan := &q.plans[rnd.Intn(len(q.plans))]
	switch rnd.Intn(5) {
	case 0:
		plan.Group = 1 + rnd.Intn(q.groups)
	case 1:
		if plan.Do != api.DoMerge {
			plan.Old = 1 + rnd.Intn(plan.Gen-1)
		}
	case 2:
		gen := 2 + rnd.Intn(q.gen-1)
		if plan.Old < gen && !slices.ContainsFunc(q.plans, func(a api.Answer) bool { return a.Gen == gen }) {
			plan.Gen = gen
			slices.SortFunc(q.plans, func(a, b api.Answer) int { return a.Gen - b.Gen })
		}
	}
	return q
}

// mayBeAsked tells whether q is one that Load asks: each plan and each tablet may be by itself.
func (q question) mayBeAsked(x place) bool {
	m := New(q.groups)
	m.last = q.gen
	for _, plan := range q.plans {
		if !m.tellsPlan(plan) {
			return false
		}
	}
	for _, t := range q.tablets {
		if !m.mayBe(t, q.gen) || !x.tells(t.Span.Lo) {
			return false
		}
	}
	return true
}

func (q question) show() string {
	s := fmt.Sprintf("of %d groups and at most %d tablets, last Gen %d, full since %d:", q.groups, q.most, q.gen, q.full)
	for _, x := range q.tablets {
		s += fmt.Sprintf(" %q-%q@%d#%d", x.Span.Lo, x.Span.Hi, x.Group, x.Gen)
	}
	for _, plan := range q.plans {
		s += fmt.Sprintf("; #%d: %d at %q of %q-%q@%d#%d to %d", plan.Gen, plan.Do, plan.At, plan.Span.Lo, plan.Span.Hi, plan.Group, plan.Old, plan.To)
	}
	return s
}

// TestAllPasts: what is told of plans and tablets is held against all pasts.
func TestAllPasts(t *testing.T) {
	t.Parallel()
	counts := map[string]int{}
	for seed := range int64(250) {
		rnd := rand.New(rand.NewSource(seed))
		x := places()[rnd.Intn(len(places()))]
		q := someQuestion(rnd, x)
		part := rnd.Intn(100)
		q.plans = slices.DeleteFunc(q.plans, func(a api.Answer) bool {
			return rnd.Intn(100) < part || !x.tells(a.Span.Lo, a.Span.Hi, a.At)
		})
		for i := range 6 {
			ask := q
			for range i {
				ask = turned(rnd, x, ask)
			}
			if !ask.mayBeAsked(x) {
				continue
			}
			want := (&all{question: ask, cuts: x.all()}).mayHaveBeen()
			if i == 0 && !want {
				t.Fatalf("seed %d: there was this: %s", seed, ask.show())
			}
			if got := mayHaveBeen(ask); got != want {
				t.Errorf("P12.2: seed %d: may there have been this: %v, want %v: %s", seed, got, want, ask.show())
			}
			counts[fmt.Sprint(ask.full > 0, " ", want)]++
		}
	}
	for _, what := range []string{"false false", "false true", "true false", "true true"} {
		if counts[what] < 60 {
			t.Errorf("hardly any questions are %s: %v", what, counts)
		}
	}
}
