package tablet

import (
	"wardmote/api"
	"wardmote/change"
	"wardmote/cmd"
	"wardmote/once"
	"wardmote/span"
)

// operate does o once, and tells the same when it is asked again.
func (s *Store) operate(client, seq int, o api.Op) api.Answer {
	t := s.holder(o.Row)
	if t == nil {
		return told(api.ErrWrong)
	}
	last, kind := t.cache.Look(client, seq)
	switch {
	case kind == once.Again:
		// What the cache has, EncodeAnswer wrote.
		a, _ := cmd.DecodeAnswer(last)
		return a
	case kind == once.Old || !mayAsk(client, seq):
		return told(api.ErrOld)
	case t.frozen:
		return told(api.ErrBusy)
	}
	a := t.do(o)
	t.keep(client, seq, a)
	return a
}

// holder answers the tablet that has name, a live one ahead of a frozen one; nil of none.
func (s *Store) holder(name string) *tablet {
	var found *tablet
	for _, t := range s.l {
		if span.Has(t.span, name) && (found == nil || found.frozen) {
			found = t
		}
	}
	return found
}

// mayAsk tells whether a cache could keep what that client is told of that number.
func mayAsk(client, seq int) bool {
	return 0 <= client && client <= maxClient && seq <= maxSeq
}

// keep lets the cache have a. No answer of an operation is too great for that.
func (t *tablet) keep(client, seq int, a api.Answer) {
	b, _ := cmd.EncodeAnswer(a)
	t.cache.Keep(client, seq, b)
}

func (t *tablet) do(o api.Op) api.Answer {
	switch o.Kind {
	case api.Get:
		return t.get(o.Row)
	case api.Mutate:
		return told(t.mutate(o))
	}
	// Scan is the only Kind that is left.
	return t.scan(o)
}

func (t *tablet) get(name string) api.Answer {
	r, there := t.table.Find(name)
	if !there {
		return told(api.OK)
	}
	return api.Answer{Rows: []api.Named{{Name: name, R: r}}}
}

func (t *tablet) mutate(o api.Op) api.Errno {
	// A row that is not there is found as an empty one.
	r, _ := t.table.Find(o.Row)
	if !change.Holds(r, o.Cond) {
		return api.ErrCond
	}
	r, why := change.Apply(r, o.L...)
	if why != api.OK {
		return why
	}
	return t.table.Set(o.Row, r)
}

// scan tells rows, and in Span how far it has looked.
func (t *tablet) scan(o api.Op) api.Answer {
	hi := lower(o.Hi, t.span.Hi)
	l, next := t.table.Range(o.Row, hi, o.Most)
	if next == "" {
		next = hi
	}
	return api.Answer{Rows: l, Span: api.Span{Lo: o.Row, Hi: next}}
}

// lower answers the lower one of two ends of spans: the empty one is behind all names.
func lower(a, b string) string {
	if a == "" || b != "" && b < a {
		return b
	}
	return a
}
