package master

import (
	"slices"

	"wardmote/api"
)

// groupSet has groups of tablets, a bit for each.
type groupSet uint8

func setOf(group int) groupSet {
	return 1 << group
}

// setTo answers the groups from 1 to groups.
func setTo(groups int) groupSet {
	return setOf(groups+1) - setOf(1)
}

func (s groupSet) has(group int) bool {
	return s&setOf(group) != 0
}

// each answers sets of one group: all that are in s.
func (s groupSet) each() []groupSet {
	var l []groupSet
	for g := 1; g <= api.MaxGroups; g++ {
		if s.has(g) {
			l = append(l, setOf(g))
		}
	}
	return l
}

// area is a part of all names, at some time, as far as it is known what was
// there: one tablet, or, if it is open, any tablets at all. Where it begins or
// ends in a gap, any name of that gap is as good.
type area struct {
	lo, hi edge
	groups groupSet // the tablet was in one of these
	gen    int      // the tablet's Gen; 0, if it may have been any
	open   bool
	fresh  bool // see past
}

// isCutBy tells whether e is within x.
func (x area) isCutBy(e edge) bool {
	return x.lo < e && e < x.hi
}

// areaOf answers an area with this tablet.
func (l names) areaOf(t api.Tablet) area {
	return area{lo: l.lo(t.Span.Lo), hi: l.hi(t.Span.Hi), groups: setOf(t.Group), gen: t.Gen, fresh: true}
}

// areasOf answers areas with these tablets.
func (l names) areasOf(tablets []api.Tablet) []area {
	var out []area
	for _, t := range tablets {
		out = append(out, l.areaOf(t))
	}
	return out
}

// known is a plan that a client was told.
type known struct {
	gen, do  int
	lo, hi   edge
	cut      edge   // where it cuts its span, if it is no move
	from, to []area // what it was made of, and what is there if it is carried out
}

func (l names) knownOf(plan api.Answer) known {
	k := known{gen: plan.Gen, do: plan.Do, lo: l.lo(plan.Span.Lo), hi: l.hi(plan.Span.Hi), cut: l.lo(cutOf(plan)), to: l.areasOf(made(plan))}
	k.from = []area{l.areaOf(api.Tablet{Span: plan.Span, Group: plan.Group, Gen: plan.Old})}
	if plan.Do == api.DoMerge {
		// Of what is merged no Gens are told.
		k.from = parted(k.from[0], k.cut)
	}
	return k
}

// parted answers both parts of x, of any Gens.
func parted(x area, at edge) []area {
	below, above := x, x
	below.hi, above.lo = at, at
	below.gen, above.gen = 0, 0
	below.fresh, above.fresh = true, true
	return []area{below, above}
}

// meets tells whether k is about some of x.
func (k known) meets(x area) bool {
	return k.lo < x.hi && x.lo < k.hi
}

// replaced answers l with these in the place of l[i:j].
func replaced(l []area, i, j int, by ...area) []area {
	return slices.Concat(l[:i], by, l[j:])
}

// renewed answers l with all areas fresh, or none.
func renewed(l []area, fresh bool) []area {
	l = slices.Clone(l)
	for i := range l {
		l[i].fresh = fresh && !l[i].open
	}
	return l
}

// hasGen tells whether one of l is known to have this Gen.
func hasGen(l []area, gen int) bool {
	return slices.ContainsFunc(l, func(x area) bool { return x.gen == gen })
}

// begins tells whether one of l begins at e.
func begins(l []area, e edge) bool {
	return slices.ContainsFunc(l, func(x area) bool { return x.lo == e })
}

// withAll answers l, where it is known of all these areas too, which begin and
// end at names; false, if not all of it can be.
func withAll(l, more []area) ([]area, bool) {
	ok := true
	for _, x := range more {
		if l, ok = with(l, x); !ok {
			return nil, false
		}
	}
	return l, true
}

func with(l []area, x area) ([]area, bool) {
	i := slices.IndexFunc(l, func(y area) bool { return y.lo <= x.lo && x.lo < y.hi })
	y := l[i]
	switch {
	case y.open:
		return carved(l, i, x)
	case !agree(x, y):
		return nil, false
	}
	y.groups &= x.groups
	y.gen = max(y.gen, x.gen)
	y.fresh = true
	return replaced(l, i, i+1, y), true
}

// agree tells whether two areas may be one and the same tablet.
func agree(a, b area) bool {
	return a.lo == b.lo && a.hi == b.hi && a.groups&b.groups != 0 && (a.gen == 0 || b.gen == 0 || a.gen == b.gen)
}

// carved answers l with x in its place in l[i], which is open and has the name that x begins with.
func carved(l []area, i int, x area) ([]area, bool) {
	y := l[i]
	if x.hi > y.hi {
		return nil, false
	}
	var by []area
	if y.lo < x.lo {
		by = append(by, area{lo: y.lo, hi: x.lo, groups: y.groups, open: true})
	}
	by = append(by, x)
	if x.hi < y.hi {
		by = append(by, area{lo: x.hi, hi: y.hi, groups: y.groups, open: true})
	}
	return replaced(l, i, i+1, by...), true
}

// openedBut answers l, where areas are open but those that are to be kept. Open ones that touch are one.
func openedBut(l []area, groups groupSet, keep func(x area) bool) []area {
	var out []area
	for _, x := range l {
		if !keep(x) {
			x = area{lo: x.lo, hi: x.hi, groups: groups, open: true}
		}
		if n := len(out) - 1; n >= 0 && x.open && out[n].open {
			out[n].hi = x.hi
			continue
		}
		out = append(out, x)
	}
	return out
}

// keyOf answers all that is known of m as a text, but that gen stands for its Gen.
func keyOf(gen int, m moment) string {
	b := appendNumber(nil, gen)
	b = append(b, flag(m.full, 1))
	for _, x := range m.l {
		b = append(b, byte(x.lo>>8), byte(x.lo), byte(x.groups)|flag(x.open, 32)|flag(x.fresh, 64))
		b = appendNumber(b, x.gen)
	}
	return string(b)
}

func appendNumber(b []byte, n int) []byte {
	return append(b, byte(n>>24), byte(n>>16), byte(n>>8), byte(n))
}

func flag(is bool, bit byte) byte {
	if is {
		return bit
	}
	return 0
}
