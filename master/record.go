package master

import (
	"cmp"
	"slices"

	"wardmote/api"
)

// record is all that is told of the time up to a moment.
type record struct {
	*past
	moment
	plans []known
	lists
}

// lists are those of a record. The next record has its own in the same memory: a search needs very many.
type lists struct {
	stays  []stay // by rising first
	facts  []fact // of all edges, one behind the other
	places []int  // of each edge: where its facts begin
}

// emptied answers lists with nothing in them.
func (l lists) emptied() lists {
	return lists{l.stays[:0], l.facts[:0], l.places[:0]}
}

// stay is a tablet that was there from one Gen to another one, or, behind a
// known plan, the span of it, where it is not told what became of it.
type stay struct {
	lo, hi      edge
	first, last int
	groups      groupSet // 0, if nothing is told of them
	but         edge     // within it, and nothing is told of that
	isMade      bool     // a plan of which nothing else is known made it, the one with Gen first
}

func (p *past) recordOf(m moment) record {
	r := record{past: p, moment: m, plans: p.upTo(m.gen), lists: p.used.emptied()}
	r.stays = append(r.stays, stay{hi: p.names.end(), first: first().Gen, last: first().Gen, groups: setOf(first().Group)})
	for _, k := range r.plans {
		for _, x := range k.from {
			r.stays = append(r.stays, p.stayOf(x, k.gen-1))
		}
		r.stays = append(r.stays, p.behind(k))
	}
	for _, x := range m.l {
		if !x.open {
			r.stays = append(r.stays, p.stayOf(x, m.gen))
		}
	}
	slices.SortStableFunc(r.stays, func(a, b stay) int { return cmp.Compare(a.first, b.first) })
	return r
}

// longRecord is how long a record may be that is asked at each step: of more plans it would take too much time.
const longRecord = 2000

// isShort tells whether m's record is.
func (p *past) isShort(m moment) bool {
	return len(p.upTo(m.gen))*int(p.names.end()) <= longRecord
}

// stayOf answers that x was there when last was the last Gen.
func (p *past) stayOf(x area, last int) stay {
	s := stay{lo: x.lo, hi: x.hi, first: last, last: last, groups: x.groups}
	if x.gen > 0 {
		s.first = x.gen
		s.isMade = x.gen > first().Gen && !p.isKnown(x.gen)
	}
	return s
}

// behind answers what is told of the time behind k, whether it was carried out or not.
func (p *past) behind(k known) stay {
	s := stay{lo: k.lo, hi: k.hi, first: k.gen, last: k.gen, but: k.cut}
	if k.do != api.DoMove {
		s.groups = k.from[0].groups
	}
	return s
}

// isWithin tells whether it is told that e is within s.
func (s stay) isWithin(e edge) bool {
	return s.lo < e && e < s.hi && e != s.but
}

// fact tells that tablets were cut at an edge, or were not, from one Gen to another one.
type fact struct {
	first, last int
	is          bool
}

// isTrue finds all facts; it is false if they are not all true.
func (r *record) isTrue() bool {
	for e := edge(0); e < r.names.end(); e++ {
		r.places = append(r.places, len(r.facts))
		if !r.addFacts(e) {
			return false
		}
	}
	r.places = append(r.places, len(r.facts))
	return true
}

// addFacts finds what is told of e, which is next.
func (r *record) addFacts(e edge) bool {
	begin := len(r.facts)
	for _, s := range r.stays {
		is := e.isName() && (s.lo == e || s.hi == e)
		if !is && !s.isWithin(e) {
			continue
		}
		if n := len(r.facts) - 1; n >= begin && s.first <= r.facts[n].last {
			if r.facts[n].is != is {
				return false
			}
			r.facts[n].last = max(r.facts[n].last, s.last)
			continue
		}
		r.facts = append(r.facts, fact{s.first, s.last, is})
	}
	return true
}

// factsOf answers all that is told of e, one behind the other.
func (r *record) factsOf(e edge) []fact {
	return r.facts[r.places[e]:r.places[e+1]]
}
