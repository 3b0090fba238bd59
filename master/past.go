package master

import (
	"slices"
	"sort"

	"wardmote/api"
)

// past looks for plans that may have led to tablets, from the last one back to
// the first. Each Gen had a plan. Of those that clients were told all is known
// but whether they were carried out. Any other one may have been any plan, and
// there always was one that could be given up, so that nothing was done.
//
// Where nothing was done at a Gen, another plan's work could have waited for it,
// as long as what that made was left alone between. So whatever can be undone
// is undone at once, or else not till some of it is found anew: such areas are
// fresh. (A split that was to lead to MaxTablets could not wait till there were
// less again. But when it is found that there were MaxTablets, all is fresh.)
// So there is little to try; and yet plans may be so many that the search would
// hardly end: then it gives up.
type past struct {
	groups groupSet // all that there are
	most   int      // how many tablets there may be
	names  names
	plans  []known        // by rising Gens
	full   int            // the first Gen at which there may have been most, if that is asked
	failed map[string]int // by moments: the greatest Gen with which nothing leads to them
	steps  int            // how many are left till it gives up
	used   lists          // of the last record
}

// How many steps are taken for the whole, and for what is asked ahead of that of
// each plan by itself. They bound the time; what plans of some clients need is far less.
const (
	patience      = 20000
	plansPatience = 5000
)

// moment is what is known of the time when gen was the last Gen.
type moment struct {
	gen  int
	l    []area // of all names
	full bool   // then or ahead of it there were MaxTablets
}

// question is what is asked of a past: may there have been all these plans, by
// rising Gens, and may they have led to these tablets when gen was the last Gen?
type question struct {
	groups, most int
	plans        []api.Answer
	gen          int
	tablets      []api.Tablet
	full         int // from this Gen on there were MaxTablets once; 0, if that is not known
}

// mayHaveBeen answers x. It is true where that would take too long to tell.
func mayHaveBeen(x question) bool {
	p := pastOf(x)
	// The whole asks for all that is asked of each plan, but here it is told soon: there is little else.
	for _, k := range p.plans {
		p.steps = plansPatience / len(p.plans)
		if !p.mayBegin(k) {
			return false
		}
	}
	p.steps = patience
	m := moment{x.gen, p.names.areasOf(x.tablets), x.full > 0}
	return !p.isTooBusy(m) && p.mayComeTo(m)
}

func pastOf(x question) *past {
	p := &past{groups: setTo(x.groups), most: x.most, full: x.full, failed: map[string]int{}}
	p.names = namesOf(x.plans, x.tablets, x.most)
	for _, plan := range x.plans {
		p.plans = append(p.plans, p.names.knownOf(plan))
	}
	return p
}

// mayBegin tells whether the plans ahead of k may have led to where it begins, whatever else there was.
func (p *past) mayBegin(k known) bool {
	anything := []area{{hi: p.names.end(), groups: p.groups, open: true}}
	return p.mayGiveUp(k, moment{gen: k.gen, l: anything})
}

// mayComeTo tells whether plans may have led to m. It is asked where more is known than behind it.
func (p *past) mayComeTo(m moment) bool {
	return len(m.l) <= p.most && p.agrees(m) && p.mayLead(m)
}

// mayLead tells whether plans may have led to m.
func (p *past) mayLead(m moment) bool {
	p.steps--
	if p.steps < 0 {
		return true
	}
	m = p.plain(m)
	next := p.lastFixed(m)
	key := keyOf(next, m)
	// With less Gens no more plans lead to it.
	if m.gen <= p.failed[key] {
		return false
	}
	ok := p.mayLeadSince(next, m)
	if !ok {
		p.failed[key] = m.gen
	}
	return ok
}

// mayLeadSince tells whether plans may have led to m; next is the last Gen that is fixed.
func (p *past) mayLeadSince(next int, m moment) bool {
	switch {
	case p.isTooFar(m) || p.isCutOff(m) || p.isShort(m) && p.isTooBusy(m):
		return false
	case next <= first().Gen:
		// Nothing else is asked of the plans up to then but that there are enough of them.
		return true
	case p.isFree(m, next):
		return p.mayLead(p.opened(m, next))
	}
	return p.mayLeadBy(m, next)
}

// plain answers m by its plainest words.
func (p *past) plain(m moment) moment {
	if len(m.l) == p.most && m.gen >= p.full {
		m.full = false
	}
	if len(m.l) >= p.most-1 {
		// A merge could not wait where that would have left no room for a split.
		m.l = renewed(m.l, true)
	}
	m.l = p.forgotten(m)
	return m
}

// forgotten answers m's areas, where ends that nothing asks for any more are anywhere in a gap.
func (p *past) forgotten(m moment) []area {
	l := slices.Clone(m.l)
	for i := range l[1:] {
		e := l[i+1].lo
		if l[i].gen == 0 && l[i+1].gen == 0 {
			e = p.gapFor(l[:i+1], e, m.gen)
		}
		l[i].hi, l[i+1].lo = e, e
	}
	return l
}

// gapFor answers e, behind the areas ahead of it, as it is told when no plan behind gen is known.
func (p *past) gapFor(ahead []area, e edge, gen int) edge {
	if e.isName() && p.names.isAsked(e.index(), gen) {
		return e
	}
	i := e.index()
	for !p.names.isAsked(i, gen) && !begins(ahead, nameEdge(i)) {
		i--
	}
	return gapEdge(i)
}

// lastFixed answers the greatest Gen, up to m's, of a known plan or of what m's areas were made by; 0 of none.
func (p *past) lastFixed(m moment) int {
	fixed := 0
	for _, x := range m.l {
		fixed = max(fixed, x.gen)
	}
	if plans := p.upTo(m.gen); len(plans) > 0 {
		fixed = max(fixed, plans[len(plans)-1].gen)
	}
	return fixed
}

// upTo answers the known plans up to gen.
func (p *past) upTo(gen int) []known {
	n := sort.Search(len(p.plans), func(i int) bool { return p.plans[i].gen > gen })
	return p.plans[:n]
}

// at answers the known plan with gen.
func (p *past) at(gen int) (known, bool) {
	plans := p.upTo(gen)
	if n := len(plans); n > 0 && plans[n-1].gen == gen {
		return plans[n-1], true
	}
	return known{}, false
}

// isFree tells whether between next and m there were so many plans of which
// nothing is known that they may have led from anything to m: two moves, a split
// and a merge for each tablet, and a merge for each if there were MaxTablets.
func (p *past) isFree(m moment, next int) bool {
	return m.gen-next >= 5*p.most && (!m.full || p.roomIn(m) >= p.most-len(m.l))
}

// roomIn answers how many names m's tablets may be cut at that need not be there from a Gen on, as far as that matters.
func (p *past) roomIn(m moment) int {
	var l []edge
	for i, x := range m.l {
		if x.gen == 0 {
			l = append(l, p.cuts(m, i)...)
		}
	}
	n := 0
	// Areas that touch in a gap may both be cut there.
	for _, e := range slices.Compact(l) {
		if e.isName() {
			n++
		} else {
			n += p.gapRoom(m, e.index())
		}
	}
	return n
}

// opened answers what is known of the time when next was the last Gen, if plans behind it may have led from anything to m.
func (p *past) opened(m moment, next int) moment {
	return moment{gen: next, l: openedBut(m.l, p.groups, func(x area) bool { return x.gen != 0 })}
}

// mayLeadBy tries the plan with m's Gen; next is the last Gen that is fixed, that one or one ahead of it.
func (p *past) mayLeadBy(m moment, next int) bool {
	if k, isKnown := p.at(m.gen); isKnown {
		return p.mayGiveUp(k, m) || p.mayCarryOut(k, m)
	}
	// The order is of no account but for the time: MaxTablets are to be found, and then fewer tablets are nearer to the first.
	return m.full && p.oneMayLead(m, p.unmerged(m)) ||
		p.oneMayLead(m, p.unsplit(m)) ||
		next < m.gen && p.mayLead(moment{next, renewed(m.l, false), m.full}) ||
		p.oneMayLead(m, p.unmoved(m)) ||
		!m.full && p.oneMayLead(m, p.unmerged(m))
}

// oneMayLead tells whether plans may have led to one of these, and the plan with m's Gen from there to m.
func (p *past) oneMayLead(m moment, all [][]area) bool {
	return slices.ContainsFunc(all, func(l []area) bool { return p.mayLead(m.ahead(l)) })
}

// ahead answers the moment ahead of the plan with m's Gen, if there was l then.
func (m moment) ahead(l []area) moment {
	return moment{m.gen - 1, l, m.full}
}

// mayGiveUp tells whether k, with m's Gen, may have been given up, and others ahead of it led to m.
func (p *past) mayGiveUp(k known, m moment) bool {
	before, ok := withAll(m.l, k.from)
	return ok && !hasGen(m.l, k.gen) && p.hasRoom(k, before) && p.mayComeTo(m.ahead(before))
}

// hasRoom tells whether there were not too many tablets for k.
func (p *past) hasRoom(k known, before []area) bool {
	return k.do != api.DoSplit || len(before) < p.most
}

// mayCarryOut tells whether k, with m's Gen, may have been carried out, and led to m.
func (p *past) mayCarryOut(k known, m moment) bool {
	after, ok := withAll(m.l, k.to)
	if !ok {
		return false
	}
	i := slices.IndexFunc(after, func(x area) bool { return x.gen == k.gen })
	j := i + len(k.to)
	if !mayBeMade(k.gen, after, i, j) {
		return false
	}
	before := replaced(after, i, j, k.from...)
	return p.hasRoom(k, before) && p.mayComeTo(m.ahead(before))
}

// mayBeMade tells whether l[i:j] may be all that the plan with gen made, and whether some of it is new.
func mayBeMade(gen int, l []area, i, j int) bool {
	isNew := false
	for _, x := range l[i:j] {
		if x.gen != 0 && x.gen != gen {
			return false
		}
		isNew = isNew || x.fresh || x.gen == gen
	}
	return isNew && !hasGen(l[:i], gen) && !hasGen(l[j:], gen)
}
