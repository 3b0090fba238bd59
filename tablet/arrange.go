package tablet

import (
	"wardmote/api"
	"wardmote/once"
	"wardmote/rows"
	"wardmote/span"
)

// freeze lets the tablet be changed no more, and tells all of it.
func (s *Store) freeze(at api.Span, gen int) api.Answer {
	t := s.just(at, gen)
	if t == nil {
		return told(api.ErrNone)
	}
	t.frozen = true
	return api.Answer{State: t.state()}
}

// retire lets the tablet, which must be frozen, not be there any more.
func (s *Store) retire(at api.Span, gen int) api.Errno {
	t := s.just(at, gen)
	switch {
	case t == nil:
		// It may have been retired by the same request, asked ahead of this one.
		return api.OK
	case !t.frozen:
		return api.ErrBusy
	}
	s.drop(t)
	return api.OK
}

// just answers the tablet that has this span and Gen; nil of none.
func (s *Store) just(at api.Span, gen int) *tablet {
	for _, t := range s.l {
		if t.span == at && t.gen == gen {
			return t
		}
	}
	return nil
}

// live answers the tablet that has this span and is not frozen; nil of none.
func (s *Store) live(at api.Span) *tablet {
	for _, t := range s.l {
		if t.span == at && !t.frozen {
			return t
		}
	}
	return nil
}

// arrange does a command that makes tablets, once by its Gen: who asks again is told the same.
func (s *Store) arrange(c api.Command) api.Errno {
	switch {
	case c.Gen < s.last:
		return api.ErrOld
	case c.Gen == s.last:
		return s.code
	}
	s.code = s.rearrange(c)
	s.last = c.Gen
	return s.code
}

func (s *Store) rearrange(c api.Command) api.Errno {
	switch c.Kind {
	case api.Install:
		return s.install(c)
	case api.Split:
		return s.split(c)
	}
	// Merge is the only Kind that is left.
	return s.merge(c)
}

// install puts the tablet of a State in the place of frozen ones that are older.
func (s *Store) install(c api.Command) api.Errno {
	t, ok := fromState(c.State)
	if !ok || t.span != c.Span {
		return api.ErrForm
	}
	var older []*tablet
	for _, x := range s.l {
		if !span.Meet(x.span, c.Span) {
			continue
		}
		if !x.frozen || x.gen >= c.Gen {
			return api.ErrBusy
		}
		older = append(older, x)
	}
	if len(s.l)-len(older)+1 > api.MaxTablets {
		return api.ErrFull
	}
	t.gen = c.Gen
	s.drop(older...)
	s.put(t)
	return api.OK
}

// split puts two tablets in the place of one.
func (s *Store) split(c api.Command) api.Errno {
	t := s.live(c.Span)
	switch {
	case t == nil:
		return api.ErrNone
	case len(s.l)+1 > api.MaxTablets:
		return api.ErrFull
	}
	below, above, _ := span.Split(c.Span, c.At)
	low, high := t.table.Split(c.At)
	s.drop(t)
	s.put(
		&tablet{span: below, gen: c.Gen, table: low, cache: t.cache.Copy()},
		&tablet{span: above, gen: c.Gen, table: high, cache: t.cache.Copy()},
	)
	return api.OK
}

// merge puts one tablet in the place of two.
func (s *Store) merge(c api.Command) api.Errno {
	below, above, _ := span.Split(c.Span, c.At)
	low, high := s.live(below), s.live(above)
	if low == nil || high == nil {
		return api.ErrNone
	}
	table, why := rows.Join(low.table, high.table)
	if why != api.OK {
		return why
	}
	s.drop(low, high)
	s.put(&tablet{span: c.Span, gen: c.Gen, table: table, cache: once.Join(low.cache, high.cache)})
	return api.OK
}
