package master

import (
	"cmp"
	"slices"
)

// unsplit answers what there may have been ahead of the plan with m's Gen, if it was a split and led to m.
func (p *past) unsplit(m moment) [][]area {
	var out [][]area
	for i := range m.l[1:] {
		if !mayBeMade(m.gen, m.l, i, i+2) {
			continue
		}
		for _, by := range p.joined(m, i) {
			if before := replaced(m.l, i, i+2, by...); len(before) < p.most {
				out = append(out, before)
			}
		}
	}
	return out
}

// joined answers what may have been cut into m.l[i] and m.l[i+1]. Of an open area that was any part.
func (p *past) joined(m moment, i int) [][]area {
	a, b := m.l[i], m.l[i+1]
	switch {
	case a.open:
		b.lo = a.lo
		out := [][]area{{anew(b, b.groups)}}
		for _, at := range p.cuts(m, i) {
			a.hi, b.lo = at, at
			out = append(out, []area{a, anew(b, b.groups)})
		}
		return out
	case b.open:
		a.hi = b.hi
		out := [][]area{{anew(a, a.groups)}}
		for _, at := range p.cuts(m, i+1) {
			a.hi, b.lo = at, at
			out = append(out, []area{anew(a, a.groups), b})
		}
		return out
	case a.groups&b.groups == 0:
		return nil
	}
	a.hi = b.hi
	return [][]area{{anew(a, a.groups&b.groups)}}
}

// anew answers an area like x with a tablet in one of these groups, of any Gen.
func anew(x area, groups groupSet) area {
	return area{lo: x.lo, hi: x.hi, groups: groups, fresh: true}
}

// unmoved answers what there may have been ahead of the plan with m's Gen, if it
// was a move and led to m. Open areas may have been what they are ahead of it too.
func (p *past) unmoved(m moment) [][]area {
	var out [][]area
	for i, x := range m.l {
		before := p.groups
		if len(x.groups.each()) == 1 {
			before &^= x.groups
		}
		if before != 0 && !x.open && mayBeMade(m.gen, m.l, i, i+1) {
			out = append(out, replaced(m.l, i, i+1, anew(x, before)))
		}
	}
	return out
}

// merge is one that may have made m.l[i] of two parts.
type merge struct {
	i  int
	at edge
}

// unmerged answers what there may have been ahead of the plan with m's Gen, if it
// was a merge and led to m. Open areas may have been what they are ahead of it too.
func (p *past) unmerged(m moment) [][]area {
	if len(m.l) == p.most {
		return nil
	}
	var out [][]area
	for _, c := range p.merges(m) {
		x := m.l[c.i]
		for _, g := range x.groups.each() {
			out = append(out, replaced(m.l, c.i, c.i+1, parted(anew(x, g), c.at)...))
		}
	}
	return out
}

// merges answers all that may have been carried out by the plan with m's Gen.
func (p *past) merges(m moment) []merge {
	var l []merge
	for i, x := range m.l {
		if x.open || !mayBeMade(m.gen, m.l, i, i+1) {
			continue
		}
		for _, at := range p.cuts(m, i) {
			l = append(l, merge{i, at})
		}
	}
	// The longer ago a plan asks for what is cut there, the longer it may stay cut.
	slices.SortStableFunc(l, func(a, b merge) int {
		return cmp.Compare(p.lastAsked(m.gen, a.at), p.lastAsked(m.gen, b.at))
	})
	return l
}

// lastAsked answers the greatest Gen, up to gen, of a known plan of a tablet that e is within; 0 of none.
func (p *past) lastAsked(gen int, e edge) int {
	plans := p.upTo(gen)
	for i := len(plans) - 1; i >= 0; i-- {
		if slices.ContainsFunc(plans[i].from, func(x area) bool { return x.isCutBy(e) }) {
			return plans[i].gen
		}
	}
	return 0
}

// cuts answers where m.l[i] may be cut: at names that known plans up to m's Gen
// ask for, and in the gaps between these. One end in a gap is enough, if it need
// not lead to MaxTablets: what is between two of them could be left out of any past.
func (p *past) cuts(m moment, i int) []edge {
	x := m.l[i]
	var l []edge
	for e := x.lo; ; {
		next := p.nextAsked(x, e, m.gen)
		if p.mayCutGap(m, x, e, next) {
			l = append(l, gapEdge(e.index()))
		}
		if next >= x.hi {
			return l
		}
		l = append(l, next)
		e = next
	}
}

// nextAsked answers the first name behind e, within x, that a known plan up to gen asks for; where x ends, if there is none.
func (p *past) nextAsked(x area, e edge, gen int) edge {
	for i := e.index() + 1; nameEdge(i) < x.hi; i++ {
		if p.names.isAsked(i, gen) {
			return nameEdge(i)
		}
	}
	return x.hi
}

// mayCutGap tells whether x may be cut in the gap from e, where x or the gap begins, to next.
func (p *past) mayCutGap(m moment, x area, e, next edge) bool {
	isCut := !e.isName() || !next.isName()
	return (!isCut || m.full) && p.gapRoom(m, e.index()) > 0
}

// gapRoom answers how many more of m's tablets may begin in the gap behind name i, as far as that matters.
func (p *past) gapRoom(m moment, i int) int {
	begin := gapEdge(i)
	n := p.names[i].room
	for i++; !p.names.isAsked(i, m.gen) && !begins(m.l, nameEdge(i)); i++ {
		n += 1 + p.names[i].room
	}
	for _, x := range m.l {
		if x.lo == begin {
			n--
		}
	}
	return n
}
