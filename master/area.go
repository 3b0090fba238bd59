package master

import (
	"slices"

	"wardmote/api"
	"wardmote/octet"
	"wardmote/span"
)

// groupSet has groups of tablets, a bit for each.
type groupSet uint8

func setOf(group int) groupSet {
	return 1 << group
}

// setTo answers the groups from 1 to groups.
func setTo(groups int) groupSet {
	return setOf(groups+1) - setOf(1)
}

func (s groupSet) has(group int) bool {
	return s&setOf(group) != 0
}

// each answers sets of one group: all that are in s.
func (s groupSet) each() []groupSet {
	var l []groupSet
	for g := 1; g <= api.MaxGroups; g++ {
		if s.has(g) {
			l = append(l, setOf(g))
		}
	}
	return l
}

// area is a part of all names, at some time, as far as it is known what was
// there: one tablet, or, if it is open, any tablets at all.
type area struct {
	span   api.Span
	groups groupSet // the tablet was in one of these
	gen    int      // the tablet's Gen; 0, if it may have been any
	open   bool
	fresh  bool // see past
	loose  bool // it begins at a name that no known plan tells of: another one would be as good
}

// areasOf answers areas with these tablets.
func areasOf(l []api.Tablet) []area {
	var out []area
	for _, t := range l {
		out = append(out, area{span: t.Span, groups: setOf(t.Group), gen: t.Gen, fresh: true})
	}
	return out
}

// sources answers areas with the tablets that the plan was made of. Of a merge it does not tell their Gens.
func sources(plan api.Answer) []area {
	if plan.Do != api.DoMerge {
		return areasOf([]api.Tablet{{Span: plan.Span, Group: plan.Group, Gen: plan.Old}})
	}
	below, above, _ := span.Split(plan.Span, plan.At)
	return areasOf([]api.Tablet{{Span: below, Group: plan.Group}, {Span: above, Group: plan.Group}})
}

// replaced answers l with these in the place of l[i:j].
func replaced(l []area, i, j int, by ...area) []area {
	return slices.Concat(l[:i], by, l[j:])
}

// renewed answers l with all areas fresh, or none.
func renewed(l []area, fresh bool) []area {
	l = slices.Clone(l)
	for i := range l {
		l[i].fresh = fresh
	}
	return l
}

// hasGen tells whether one of l is known to have this Gen.
func hasGen(l []area, gen int) bool {
	return slices.ContainsFunc(l, func(x area) bool { return x.gen == gen })
}

// withAll answers l, where it is known of all these areas too; false, if not all of it can be.
func withAll(l, more []area) ([]area, bool) {
	ok := true
	for _, x := range more {
		if l, ok = with(l, x); !ok {
			return nil, false
		}
	}
	return l, true
}

func with(l []area, x area) ([]area, bool) {
	i := slices.IndexFunc(l, func(y area) bool { return span.Has(y.span, x.span.Lo) })
	y := l[i]
	switch {
	case y.open:
		return carved(l, i, x)
	case !agree(x, y):
		return nil, false
	}
	y.groups &= x.groups
	y.gen = max(y.gen, x.gen)
	y.fresh = true
	return replaced(l, i, i+1, y), true
}

// agree tells whether two areas may be one and the same tablet.
func agree(a, b area) bool {
	return a.span == b.span && a.groups&b.groups != 0 && (a.gen == 0 || b.gen == 0 || a.gen == b.gen)
}

// carved answers l with x in its place in l[i], which is open and has the name that x begins with.
func carved(l []area, i int, x area) ([]area, bool) {
	by := []area{x}
	rest := l[i]
	rest.fresh = true
	if below, above, ok := span.Split(rest.span, x.span.Lo); ok {
		low := rest
		low.span, rest.span = below, above
		by = []area{low, x}
	}
	if rest.span != x.span {
		_, above, ok := span.Split(rest.span, x.span.Hi)
		if !ok {
			return nil, false
		}
		rest.span, rest.loose = above, false
		by = append(by, rest)
	}
	return replaced(l, i, i+1, by...), true
}

// behind answers the name right behind name; the empty one, if there is none.
func behind(name string) string {
	if len(name) < api.MaxName {
		return name + "\x00"
	}
	n := len(name)
	for n > 0 && name[n-1] == 0xff {
		n--
	}
	if n == 0 {
		return ""
	}
	return name[:n-1] + string([]byte{name[n-1] + 1})
}

// keyOf answers all of l as a text; where l ends all names end.
func keyOf(gen int, l []area) string {
	w := octet.New()
	w.Num(uint32(gen))
	for _, x := range l {
		w.Text([]byte(x.span.Lo))
		w.Num(uint32(x.gen))
		w.Byte(byte(x.groups))
		w.Byte(flag(x.open, 1) | flag(x.fresh, 2) | flag(x.loose, 4))
	}
	return string(w.Done())
}

func flag(is bool, bit byte) byte {
	if is {
		return bit
	}
	return 0
}

// moveTable has how few moves lead to l[i:j] from one tablet in group g on, at [i][j][g].
type moveTable [api.MaxTablets + 1][api.MaxTablets + 1][api.MaxGroups + 1]int8

// fewestMoves answers how few moves lead to l from the first tablet on. Splits and merges leave all names in their groups.
func fewestMoves(l []area) int {
	t := &moveTable{}
	for i := len(l) - 1; i >= 0; i-- {
		for j := i + 1; j <= len(l); j++ {
			for g := 1; g <= api.MaxGroups; g++ {
				t[i][j][g] = t.fewest(l[i].groups, i, j, g)
			}
		}
	}
	return int(t[0][len(l)][first().Group])
}

// fewest answers the next entry of t: l[i], which is in one of groups, stayed in
// g, or it was moved to h, by one move with all others ahead of some l[k].
func (t *moveTable) fewest(groups groupSet, i, j, g int) int8 {
	// A move for each is always enough.
	n := int8(j - i)
	for h := 1; h <= api.MaxGroups; h++ {
		if !groups.has(h) {
			continue
		}
		if h == g {
			n = min(n, t[i+1][j][g])
			continue
		}
		for k := i + 1; k <= j; k++ {
			n = min(n, 1+t[i+1][k][h]+t[k][j][g])
		}
	}
	return n
}
