package master

import (
	"cmp"
	"slices"

	"wardmote/api"
)

// duty is what a plan of which nothing is known must have done: one behind the
// Gen after and up to the Gen until, and one for each.
type duty struct {
	after, until int
	do           int
	at           edge // where tablets were cut or merged; a gap of what was moved
}

// anywhere is where a duty is that may be done in any gap.
const anywhere edge = -1

// mayMake tells whether d may be what made the tablet of s.
func (d duty) mayMake(s stay) bool {
	switch {
	case s.first <= d.after || d.until < s.first:
		return false
	case d.do == api.DoSplit:
		return d.at == s.lo || d.at == s.hi
	}
	return d.at == anywhere || s.isWithin(d.at)
}

// isTooBusy tells whether there were not plans enough, each at its time, for all
// that must have been done till m: wherever tablets were cut at one time of
// which it is told, and not at the next one, or the other way round, and moves.
func (p *past) isTooBusy(m moment) bool {
	r := p.recordOf(m)
	isTrue := r.isTrue()
	p.used = r.lists
	if !isTrue {
		return true
	}
	duties := slices.Concat(r.cuts(), r.looseCuts(), r.moves())
	if m.full {
		return !r.mayBeFull(duties)
	}
	return !r.mayDo(duties)
}

// cuts answers the splits and merges at names.
func (r *record) cuts() []duty {
	var l []duty
	for i := range r.names {
		all := r.factsOf(nameEdge(i))
		for j := 1; j < len(all); j++ {
			if all[j].is == all[j-1].is {
				continue
			}
			d := duty{all[j-1].last, all[j].first, api.DoMerge, nameEdge(i)}
			if all[j].is {
				d.do = api.DoSplit
			}
			if !r.isKnownToDo(d) {
				l = append(l, d)
			}
		}
	}
	return l
}

// isKnownToDo tells whether a known plan may have done d.
func (r *record) isKnownToDo(d duty) bool {
	return slices.ContainsFunc(r.plans, func(k known) bool {
		isThere := k.cut == d.at
		if d.do == api.DoMove {
			isThere = k.lo < d.at && d.at < k.hi
		}
		return isThere && k.do == d.do && d.after < k.gen && k.gen <= d.until
	})
}

// looseCuts answers the splits in gaps: what they led to is there in the end.
func (r *record) looseCuts() []duty {
	var l []duty
	for _, x := range r.l {
		if all := r.factsOf(x.lo); !x.lo.isName() {
			l = append(l, duty{all[len(all)-1].last, r.gen, api.DoSplit, x.lo})
		}
	}
	return l
}

// moves answers moves no two of which may be one: what was in one group at a
// time, and not at the next one of which it is told. All there is may go by one
// move, but not at two times.
func (r *record) moves() []duty {
	var l []duty
	for i := range r.names {
		l = append(l, r.movesOf(gapEdge(i))...)
	}
	slices.SortFunc(l, func(a, b duty) int { return cmp.Compare(a.until, b.until) })
	var out []duty
	for _, d := range l {
		if n := len(out); n == 0 || d.after >= out[n-1].until {
			out = append(out, d)
		}
	}
	return out
}

// movesOf answers the moves of what is in a gap.
func (r *record) movesOf(gap edge) []duty {
	var l []duty
	last, groups := 0, r.groups
	for _, s := range r.stays {
		if s.groups == 0 || !s.isWithin(gap) {
			continue
		}
		if s.groups&groups == 0 {
			if d := (duty{last, s.first, api.DoMove, gap}); !r.isKnownToDo(d) {
				l = append(l, d)
			}
			last, groups = s.last, s.groups
		}
		if s.groups&^groups == 0 {
			last, groups = max(last, s.last), s.groups
		}
	}
	return l
}

// mayDo tells whether there were plans enough, of which nothing is known, for all these.
func (r *record) mayDo(duties []duty) bool {
	duties = slices.Clone(duties)
	slices.SortFunc(duties, func(a, b duty) int { return cmp.Compare(a.after, b.after) })
	taken := r.taken(duties)
	var open []int // till when each of them is to be done that may be done now
	for gen := 0; len(duties) > 0 || len(open) > 0; gen++ {
		if len(open) == 0 {
			gen = max(gen, duties[0].after+1)
		}
		for len(duties) > 0 && duties[0].after < gen {
			open = append(open, duties[0].until)
			duties = duties[1:]
		}
		for len(taken) > 0 && taken[0] < gen {
			taken = taken[1:]
		}
		if len(taken) > 0 && taken[0] == gen {
			continue
		}
		// What can wait least is done first.
		until := slices.Min(open)
		if until < gen {
			return false
		}
		i := slices.Index(open, until)
		open = slices.Delete(open, i, i+1)
	}
	return true
}

// taken answers, rising, the Gens of plans that did none of these: of those that
// are known, and of those that made a tablet in another way.
func (r *record) taken(duties []duty) []int {
	var taken, free []int
	for _, k := range r.plans {
		taken = append(taken, k.gen)
	}
	for _, s := range r.stays {
		switch {
		case !s.isMade:
		case slices.ContainsFunc(duties, func(d duty) bool { return d.mayMake(s) }):
			free = append(free, s.first)
		default:
			taken = append(taken, s.first)
		}
	}
	// Both parts of a split have one Gen.
	taken = slices.DeleteFunc(taken, func(gen int) bool { return slices.Contains(free, gen) })
	slices.Sort(taken)
	return taken
}
