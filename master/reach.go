package master

import (
	"slices"

	"wardmote/api"
)

// isTooFar tells whether there were not enough plans up to m's Gen to lead to m:
// a split for each area but the first, and moves. More merges would ask for more
// splits, and for no less moves.
func (p *past) isTooFar(m moment) bool {
	splits, moves, merges := len(m.l)-1, 0, 0
	if m.full {
		splits, merges = p.most-1, p.most-len(m.l)
	}
	others := m.gen - first().Gen
	for _, k := range p.upTo(m.gen) {
		others--
		switch k.do {
		case api.DoSplit:
			splits--
		case api.DoMove:
			moves--
		case api.DoMerge:
			merges--
		}
	}
	if m.full && m.gen-(p.most-len(m.l)) < p.full {
		return true
	}
	left := others - max(splits, 0) - max(merges, 0)
	// A move for each is always enough: most often they need not be counted.
	return left < 0 || len(m.l)+moves > left && fewestMoves(m.l, first().Group)+moves > left
}

// isCutOff tells whether one of the last known plans can't lead to m, as there are not enough plans between.
func (p *past) isCutOff(m moment) bool {
	plans := p.upTo(m.gen)
	for i := len(plans) - 1; i >= 0 && i >= len(plans)-16; i-- {
		k := plans[i]
		free := p.freeBetween(k, plans[i+1:], m)
		if free > p.most+2 {
			return false
		}
		if p.distance(k, k.from, m) > free && p.distance(k, k.to, m) > free {
			return true
		}
	}
	return false
}

// freeBetween answers how many plans between k and m may have changed what k is about. Those that are known are behind k.
func (p *past) freeBetween(k known, behind []known, m moment) int {
	n := m.gen - k.gen
	for _, x := range behind {
		if !k.meets(area{lo: x.lo, hi: x.hi}) {
			n--
		}
	}
	for i, x := range m.l {
		if x.gen > k.gen && !p.isKnown(x.gen) && !k.meets(x) && !p.isHalf(k, m.l, i) {
			n--
		}
	}
	return n
}

func (p *past) isKnown(gen int) bool {
	_, isKnown := p.at(gen)
	return isKnown
}

// isHalf tells whether l[i] has the Gen of an area next to it that k is about, or that was counted ahead of it.
func (p *past) isHalf(k known, l []area, i int) bool {
	return i > 0 && l[i-1].gen == l[i].gen || i+1 < len(l) && l[i+1].gen == l[i].gen && k.meets(l[i+1])
}

// distance answers how many plans it takes at least from to, which k was made of or has made, to what m has there.
func (p *past) distance(k known, to []area, m moment) int {
	edges := []edge{k.lo, k.hi}
	if len(to) > 1 {
		edges = append(edges, k.cut)
	}
	n := 0
	var there []area
	for _, x := range m.l {
		if !k.meets(x) {
			continue
		}
		there = append(there, x)
		// A split for each edge that is new, a merge for each that is not there any more.
		if k.lo < x.lo && !slices.Contains(edges, x.lo) {
			n++
		}
		for _, e := range edges {
			if !x.open && x.isCutBy(e) {
				n++
			}
		}
	}
	n += movesFrom(there, to[0].groups)
	if n == 0 && !sameTablets(to, there, k.gen) {
		return 1
	}
	return n
}

// movesFrom answers how few moves lead to l from one group on.
func movesFrom(l []area, from groupSet) int {
	if !slices.ContainsFunc(l, func(x area) bool { return x.groups&from == 0 }) {
		return 0
	}
	for g := 1; g <= api.MaxGroups; g++ {
		if from == setOf(g) {
			return fewestMoves(l, g)
		}
	}
	return 0
}

// sameTablets tells whether each of l may be one of these, if it is not open; those behind gen are new.
func sameTablets(these, l []area, gen int) bool {
	for _, x := range l {
		if !x.open && (x.gen > gen || !slices.ContainsFunc(these, func(y area) bool { return agree(x, y) })) {
			return false
		}
	}
	return true
}

// moveTable has how few moves lead to l[i:j] from one tablet in group g on, at [i][j][g].
type moveTable [api.MaxTablets + 1][api.MaxTablets + 1][api.MaxGroups + 1]int8

// fewestMoves answers how few moves lead to l from one tablet in a group on. Splits and merges leave all names in their groups.
func fewestMoves(l []area, from int) int {
	t := &moveTable{}
	for i := len(l) - 1; i >= 0; i-- {
		for j := i + 1; j <= len(l); j++ {
			for g := 1; g <= api.MaxGroups; g++ {
				t[i][j][g] = t.fewest(l[i].groups, i, j, g)
			}
		}
	}
	return int(t[0][len(l)][from])
}

// fewest answers the next entry of t: l[i], which is in one of groups, stayed in
// g, or it was moved to h, by one move with all others ahead of some l[k].
func (t *moveTable) fewest(groups groupSet, i, j, g int) int8 {
	// A move for each is always enough.
	n := int8(j - i)
	for h := 1; h <= api.MaxGroups; h++ {
		if !groups.has(h) {
			continue
		}
		if h == g {
			n = min(n, t[i+1][j][g])
			continue
		}
		for k := i + 1; k <= j; k++ {
			n = min(n, 1+t[i+1][k][h]+t[k][j][g])
		}
	}
	return n
}

// agrees tells whether what is known of Gens of m agrees with itself, and with
// the known plans up to then. The search would find that too, but late.
func (p *past) agrees(m moment) bool {
	for i, x := range m.l {
		if x.gen != 0 && (clashes(m.l[:i], x) || p.isTooFar(p.asOf(x.gen, m)) || !p.lets(m.gen, x)) {
			return false
		}
	}
	return true
}

// clashes tells whether one of l, which are ahead of x, has x's Gen, though one
// plan can't have made both: only the parts of a split have one Gen, and they
// touch. So there are no three of one Gen: the first does not touch the third.
func clashes(l []area, x area) bool {
	return slices.ContainsFunc(l, func(y area) bool {
		return x.gen == y.gen && (y.hi != x.lo || x.groups&y.groups == 0)
	})
}

// asOf answers what is known of m of the time when gen was the last Gen.
func (p *past) asOf(gen int, m moment) moment {
	return moment{gen: gen, l: openedBut(m.l, p.groups, func(x area) bool { return x.gen != 0 && x.gen <= gen })}
}

// lets tells whether the known plans up to gen let x be there from its own Gen on.
func (p *past) lets(gen int, x area) bool {
	if k, isKnown := p.at(x.gen); isKnown && !slices.ContainsFunc(k.to, func(y area) bool { return agree(x, y) }) {
		return false
	}
	return !slices.ContainsFunc(p.upTo(gen), func(k known) bool {
		return k.gen > x.gen && slices.ContainsFunc(k.from, func(y area) bool {
			return y.lo < x.hi && x.lo < y.hi && !agree(x, y)
		})
	})
}
