package master

import (
	"slices"
	"strings"

	"wardmote/api"
)

// edge is where an area begins or ends. The names that are told of are numbered
// as they rise: 2i is name i, and 2i+1 is any name between it and the next one.
type edge int

func nameEdge(i int) edge { return edge(2 * i) }

func gapEdge(i int) edge { return edge(2*i + 1) }

// isName tells whether it is one of the names that are told of.
func (e edge) isName() bool { return e%2 == 0 }

// index tells which name it is, or which one it is behind.
func (e edge) index() int { return int(e) / 2 }

// name is where a tablet begins or ends that is told of.
type name struct {
	at    string
	since int // the lowest Gen of a plan that tells of it; no plan ahead of that one asks for it
	room  int // how many other names there are between it and the next one, as far as that matters
}

// names are all of them, rising. The first one is the empty name.
type names []name

// never is a Gen above all: no plan tells of a name.
const never = maxGen + 1

// namesOf answers the names that these plans, by rising Gens, and tablets tell of.
func namesOf(plans []api.Answer, tablets []api.Tablet, most int) names {
	l := names{{at: ""}}
	for _, plan := range plans {
		for _, at := range []string{plan.Span.Lo, plan.Span.Hi, cutOf(plan)} {
			l = append(l, name{at: at, since: plan.Gen})
		}
	}
	for _, t := range tablets {
		l = append(l, name{at: t.Span.Lo, since: never})
	}
	// Of one name the lowest Gen stands first.
	slices.SortStableFunc(l, func(a, b name) int { return strings.Compare(a.at, b.at) })
	l = slices.CompactFunc(l, func(a, b name) bool { return a.at == b.at })
	for i := range l {
		l[i].room = roomBehind(l, i, most)
	}
	return l
}

// cutOf answers where the plan cuts its span; the empty name, if it does not.
func cutOf(plan api.Answer) string {
	if plan.Do == api.DoMove {
		return ""
	}
	return plan.At
}

func roomBehind(l names, i, most int) int {
	n := 0
	for at := behind(l[i].at); at != "" && (i+1 == len(l) || at < l[i+1].at) && n < most; at = behind(at) {
		n++
	}
	return n
}

// behind answers the name right behind at; the empty one, if there is none.
func behind(at string) string {
	if len(at) < api.MaxName {
		return at + "\x00"
	}
	n := len(at)
	for n > 0 && at[n-1] == 0xff {
		n--
	}
	if n == 0 {
		return ""
	}
	return at[:n-1] + string([]byte{at[n-1] + 1})
}

// end answers where all names end.
func (l names) end() edge { return nameEdge(len(l)) }

// lo answers where a span begins that is told of.
func (l names) lo(at string) edge {
	i, _ := slices.BinarySearchFunc(l, at, func(x name, at string) int { return strings.Compare(x.at, at) })
	return nameEdge(i)
}

// hi answers where a span ends that is told of.
func (l names) hi(at string) edge {
	if at == "" {
		return l.end()
	}
	return l.lo(at)
}

// isAsked tells whether a plan up to gen tells of name i, or all names end there.
func (l names) isAsked(i, gen int) bool {
	return i == len(l) || l[i].since <= gen
}
