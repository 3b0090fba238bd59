package master

import (
	"slices"
	"strings"

	"wardmote/api"
	"wardmote/span"
)

// past looks for plans that may have led to tablets, from the last one back to
// the first. Each Gen had a plan. Of those that clients were told all is known
// but whether they were carried out. Any other one may have been any plan, and
// there always was one that could be given up, so that nothing was done.
//
// Where nothing was done at a Gen, another plan's work could have waited for it,
// as long as what that made was left alone between. So whatever can be undone
// is undone at once, or else not till some of it is found anew: such areas are
// fresh. What no plan tells of, as where a tablet was cut that is whole again,
// is tried in one way of all that are as good. So there is little to try; and
// yet plans may be so many that the search would hardly end: then it gives up.
type past struct {
	groups groupSet       // all that there are
	plans  []api.Answer   // those that are known, by rising Gens
	named  []namedCut     // rising, what these and more plans tell
	failed map[string]int // by areas: the greatest Gen with which nothing leads to them
	steps  int            // how many are left till it gives up
}

// patience is how many steps are taken. It bounds the time; what plans of some
// clients and a few tablets need is far less.
const patience = 5000

// mayHavePlanned tells whether there may have been all these plans, by rising
// Gens, and whether they may have led to these tablets when gen was the last
// Gen. It is true where that would take too long to tell.
func mayHavePlanned(groups int, plans []api.Answer, gen int, l []api.Tablet) bool {
	p := &past{groups: setTo(groups), named: namedCuts(plans), steps: patience}
	// The whole asks for all that is asked of each plan, but here it is told soon: there is little else.
	for i, plan := range plans {
		if !p.mayBegin(plan, plans[:i]) {
			return false
		}
	}
	p.restart(plans)
	return p.mayComeTo(gen, areasOf(l))
}

func (p *past) restart(plans []api.Answer) {
	p.plans = plans
	p.failed = map[string]int{}
}

// mayBegin tells whether the plans ahead of it may have led to where the plan begins, whatever else there was.
func (p *past) mayBegin(plan api.Answer, ahead []api.Answer) bool {
	p.restart(ahead)
	anything := []area{{groups: p.groups, open: true, fresh: true}}
	return p.mayGiveUp(plan, anything)
}

// mayComeTo tells whether plans may have led to l, when gen was the last Gen. It is asked where more is known of l than behind it.
func (p *past) mayComeTo(gen int, l []area) bool {
	return len(l) <= api.MaxTablets && p.agrees(gen, l) && p.mayLead(gen, l)
}

// mayLead tells whether plans may have led to l, when gen was the last Gen.
func (p *past) mayLead(gen int, l []area) bool {
	p.steps--
	switch {
	case p.steps < 0:
		return true
	case p.isTooFar(gen, l):
		return false
	case len(l) >= api.MaxTablets-1:
		// A merge could not wait where that would have left no room for a split.
		l = renewed(l, true)
	}
	next := p.lastFixed(gen, l)
	if next <= first().Gen {
		// Nothing else is asked of the plans up to gen but that there are enough of them.
		return true
	}
	key := keyOf(next, l)
	// With less Gens no more plans lead to it.
	if gen <= p.failed[key] {
		return false
	}
	ok := p.mayLeadBy(gen, next, l)
	if !ok {
		p.failed[key] = gen
	}
	return ok
}

// mayLeadBy tries the plan with gen; next is the last Gen that is fixed, gen itself or one ahead of it.
func (p *past) mayLeadBy(gen, next int, l []area) bool {
	if plan, known := p.known(gen); known {
		return p.mayGiveUp(plan, l) || p.mayCarryOut(plan, l)
	}
	// The order is of no account but for the time: fewer tablets are nearer to the first.
	return p.oneMayLead(gen-1, p.unsplit(gen, l)) ||
		next < gen && p.mayLead(next, renewed(l, false)) ||
		p.oneMayLead(gen-1, p.unmoved(gen, l)) ||
		p.oneMayLead(gen-1, p.unmerged(gen, l))
}

func (p *past) oneMayLead(gen int, all [][]area) bool {
	return slices.ContainsFunc(all, func(l []area) bool { return p.mayLead(gen, l) })
}

// upTo answers the known plans up to gen.
func (p *past) upTo(gen int) []api.Answer {
	return upTo(p.plans, gen)
}

func (p *past) known(gen int) (api.Answer, bool) {
	i, there := placeOf(p.plans, gen)
	if !there {
		return api.Answer{}, false
	}
	return p.plans[i], true
}

// lastFixed answers the greatest Gen, up to gen, of a known plan or of what l was made by; 0 of none.
func (p *past) lastFixed(gen int, l []area) int {
	fixed := 0
	for _, x := range l {
		fixed = max(fixed, x.gen)
	}
	if plans := p.upTo(gen); len(plans) > 0 {
		fixed = max(fixed, plans[len(plans)-1].Gen)
	}
	return fixed
}

// isTooFar tells whether there were not enough plans up to gen to lead to l: a
// split for each area but the first, and moves. More merges would ask for more
// splits, and for no less moves.
func (p *past) isTooFar(gen int, l []area) bool {
	splits, moves, others := 0, 0, gen-first().Gen
	for _, plan := range p.upTo(gen) {
		others--
		switch plan.Do {
		case api.DoSplit:
			splits++
		case api.DoMove:
			moves++
		}
	}
	needSplits := len(l) - 1
	switch {
	case needSplits > others+splits:
		return true
	case needSplits+len(l) <= others:
		// A move for each is always enough: most often they need not be counted.
		return false
	}
	needMoves := fewestMoves(l)
	return needMoves > others+moves || needSplits+needMoves > others+splits+moves
}

// mayGiveUp tells whether the plan may have been given up, and others ahead of it led to l.
func (p *past) mayGiveUp(plan api.Answer, l []area) bool {
	before, ok := withAll(l, sources(plan))
	return ok && !hasGen(l, plan.Gen) && hasRoom(plan, before) && p.mayComeTo(plan.Gen-1, before)
}

// hasRoom tells whether there were not too many tablets for the plan.
func hasRoom(plan api.Answer, before []area) bool {
	return plan.Do != api.DoSplit || len(before) < api.MaxTablets
}

// mayCarryOut tells whether the plan may have been carried out, and led to l.
func (p *past) mayCarryOut(plan api.Answer, l []area) bool {
	tablets := areasOf(made(plan))
	after, ok := withAll(l, tablets)
	if !ok {
		return false
	}
	i := slices.IndexFunc(after, func(x area) bool { return x.gen == plan.Gen })
	j := i + len(tablets)
	if !mayBeMade(plan.Gen, after, i, j) {
		return false
	}
	before := replaced(after, i, j, sources(plan)...)
	return hasRoom(plan, before) && p.mayComeTo(plan.Gen-1, before)
}

// mayBeMade tells whether l[i:j] may be all that the plan with gen made, and whether some of it is new.
func mayBeMade(gen int, l []area, i, j int) bool {
	isNew := false
	for _, x := range l[i:j] {
		if x.gen != 0 && x.gen != gen {
			return false
		}
		isNew = isNew || x.fresh || x.gen == gen
	}
	return isNew && !hasGen(l[:i], gen) && !hasGen(l[j:], gen)
}

// unsplit answers what there may have been ahead of the plan with gen, if it was
// a split and led to l. Of an open area it would have cut off any part: then all
// of it is taken as open.
func (p *past) unsplit(gen int, l []area) [][]area {
	var out [][]area
	for i := range l[1:] {
		a, b := l[i], l[i+1]
		whole, _ := span.Join(a.span, b.span)
		x := area{span: whole, groups: a.groups & b.groups, open: a.open || b.open, fresh: true, loose: a.loose}
		if x.open {
			x.groups = p.groups
		}
		if x.groups != 0 && mayBeMade(gen, l, i, i+2) {
			out = append(out, replaced(l, i, i+2, x))
		}
	}
	return out
}

// unmoved answers what there may have been ahead of the plan with gen, if it was
// a move and led to l. Open areas may have been what they are ahead of it too.
func (p *past) unmoved(gen int, l []area) [][]area {
	var out [][]area
	for i, x := range l {
		before := p.groups
		if len(x.groups.each()) == 1 {
			before &^= x.groups
		}
		if before != 0 && !x.open && mayBeMade(gen, l, i, i+1) {
			out = append(out, replaced(l, i, i+1, area{span: x.span, groups: before, fresh: true, loose: x.loose}))
		}
	}
	return out
}

// unmerged answers what there may have been ahead of the plan with gen, if it was
// a merge and led to l. Open areas may have been what they are ahead of it too.
func (p *past) unmerged(gen int, l []area) [][]area {
	if len(l) == api.MaxTablets {
		return nil
	}
	var out [][]area
	for i, x := range l {
		if x.open || !mayBeMade(gen, l, i, i+1) {
			continue
		}
		for _, c := range p.cuts(gen, l, i) {
			for _, g := range x.groups.each() {
				out = append(out, replaced(l, i, i+1, halves(x, c, g)...))
			}
		}
	}
	return out
}

// halves answers both parts of x, in one group.
func halves(x area, c cut, g groupSet) []area {
	below, above, _ := span.Split(x.span, c.at)
	return []area{{span: below, groups: g, fresh: true, loose: x.loose}, {span: above, groups: g, fresh: true, loose: c.loose}}
}

// cut is where an area begins.
type cut struct {
	at    string
	loose bool
}

// cuts answers where l[i] may be cut: where known plans up to gen tell of a cut,
// and at one loose name between each two such names. A second one there would
// be of no use: what is between both could be left out of any past.
func (p *past) cuts(gen int, l []area, i int) []cut {
	x := l[i]
	all := slices.Concat([]cut{{x.span.Lo, x.loose}}, p.toldCuts(gen, x.span), []cut{{x.span.Hi, i+1 < len(l) && l[i+1].loose}})
	out := slices.Clone(all[1 : len(all)-1])
	for k := range all[1:] {
		a, b := all[k], all[k+1]
		at := behind(a.at)
		if !a.loose && !b.loose && parts(api.Span{Lo: a.at, Hi: b.at}, at) {
			out = append(out, cut{at, true})
		}
	}
	return out
}

// toldCuts answers where s is cut by tablets that known plans up to gen tell of, rising.
func (p *past) toldCuts(gen int, s api.Span) []cut {
	var l []cut
	for _, x := range p.named {
		if x.gen <= gen && parts(s, x.at) {
			l = append(l, cut{x.at, false})
		}
	}
	return l
}

// namedCut is where tablets begin or end that plans tell of; gen is the lowest Gen of these plans.
type namedCut struct {
	at  string
	gen int
}

// namedCuts answers all that these plans, by rising Gens, tell of, rising.
func namedCuts(plans []api.Answer) []namedCut {
	var l []namedCut
	for _, plan := range plans {
		for _, x := range append(sources(plan), areasOf(made(plan))...) {
			l = append(l, namedCut{x.span.Lo, plan.Gen}, namedCut{x.span.Hi, plan.Gen})
		}
	}
	slices.SortStableFunc(l, func(a, b namedCut) int { return strings.Compare(a.at, b.at) })
	// Of one name the lowest Gen stands first.
	return slices.CompactFunc(l, func(a, b namedCut) bool { return a.at == b.at })
}

// agrees tells whether what is known of Gens of l agrees with itself, and with
// the known plans up to gen. The search would find that too, but late.
func (p *past) agrees(gen int, l []area) bool {
	for i, x := range l {
		if x.gen != 0 && (clashes(l[:i], x) || p.isTooFar(x.gen, p.asOf(x.gen, l)) || !p.lets(gen, x)) {
			return false
		}
	}
	return true
}

// clashes tells whether one of l, which are ahead of x, has x's Gen, though one
// plan can't have made both: only the parts of a split have one Gen, and they
// touch. So there are no three of one Gen: the first does not touch the third.
func clashes(l []area, x area) bool {
	return slices.ContainsFunc(l, func(y area) bool {
		return x.gen == y.gen && (y.span.Hi != x.span.Lo || x.groups&y.groups == 0)
	})
}

// asOf answers what is known of l of the time when gen was the last Gen.
func (p *past) asOf(gen int, l []area) []area {
	var out []area
	for _, x := range l {
		if x.gen == 0 || x.gen > gen {
			x = area{span: x.span, groups: p.groups, open: true}
		}
		if n := len(out) - 1; n >= 0 && x.open && out[n].open {
			out[n].span.Hi = x.span.Hi
			continue
		}
		out = append(out, x)
	}
	return out
}

// lets tells whether the known plans up to gen let x be there from its own Gen on.
func (p *past) lets(gen int, x area) bool {
	if plan, known := p.known(x.gen); known && !isOneOf(areasOf(made(plan)), x) {
		return false
	}
	return !slices.ContainsFunc(p.upTo(gen), func(plan api.Answer) bool {
		return plan.Gen > x.gen && span.Meet(plan.Span, x.span) && isCrossedBy(sources(plan), x)
	})
}

func isOneOf(l []area, x area) bool {
	return slices.ContainsFunc(l, func(y area) bool { return agree(x, y) })
}

// isCrossedBy tells whether x has a name in common with one of l, and can't be the same.
func isCrossedBy(l []area, x area) bool {
	return slices.ContainsFunc(l, func(y area) bool { return span.Meet(x.span, y.span) && !agree(x, y) })
}
