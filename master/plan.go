package master

import (
	"wardmote/api"
	"wardmote/cmd"
	"wardmote/once"
	"wardmote/span"
)

// plan tells which plan is under way, or makes one, once, and tells the same when it is asked again.
func (m *Master) plan(client, seq int, c api.Command) api.Answer {
	if c.Do == 0 {
		return m.underWay()
	}
	last, kind := m.cache.Look(client, seq)
	switch {
	case kind == once.Again:
		// What the cache has, EncodeAnswer wrote.
		a, _ := cmd.DecodeAnswer(last)
		return a
	case kind == once.Old || !mayAsk(client, seq):
		return told(api.ErrOld)
	}
	a := m.begin(c)
	m.keep(client, seq, a)
	return a
}

func (m *Master) underWay() api.Answer {
	if !m.isBusy() {
		return told(api.ErrNone)
	}
	return m.pending
}

// mayAsk tells whether a cache could keep what that client is told of that number.
func mayAsk(client, seq int) bool {
	return 0 <= client && client <= maxClient && seq <= maxSeq
}

// keep lets the cache have a. No plan or refusal is too great for that.
func (m *Master) keep(client, seq int, a api.Answer) {
	b, _ := cmd.EncodeAnswer(a)
	m.cache.Keep(client, seq, b)
}

// begin lets the plan that c asks for be under way, with the next Gen; or tells why not.
func (m *Master) begin(c api.Command) api.Answer {
	if m.isBusy() {
		return told(api.ErrBusy)
	}
	a := m.draw(c)
	switch {
	case a.Code != api.OK:
		return a
	case m.last == maxGen:
		// A Gen above it could be told neither as bytes nor by a Publish: no plan would ever end.
		return told(api.ErrFull)
	}
	m.last++
	a.Gen = m.last
	m.pending = a
	return a
}

// draw answers the plan that c asks for, without a Gen; or why there can't be one.
func (m *Master) draw(c api.Command) api.Answer {
	t := m.table.Find(c.At)
	switch c.Do {
	case api.DoMove:
		return m.drawMove(t, c)
	case api.DoSplit:
		return m.drawSplit(t, c)
	}
	// DoMerge is the only one that is left.
	return m.drawMerge(t, c)
}

func (m *Master) drawMove(t api.Tablet, c api.Command) api.Answer {
	if !m.mayMove(t.Group, c.To) {
		return told(api.ErrArg)
	}
	return api.Answer{Do: api.DoMove, At: c.At, Span: t.Span, Group: t.Group, To: c.To, Old: t.Gen}
}

func (m *Master) mayMove(from, to int) bool {
	return m.isGroup(to) && to != from
}

// isGroup tells whether tablets may be in it: in 0, the master's, there are none.
func (m *Master) isGroup(group int) bool {
	return 1 <= group && group <= m.groups
}

func (m *Master) drawSplit(t api.Tablet, c api.Command) api.Answer {
	switch {
	case !parts(t.Span, c.At):
		return told(api.ErrArg)
	case m.table.Len() >= api.MaxTablets:
		return told(api.ErrFull)
	}
	return api.Answer{Do: api.DoSplit, At: c.At, Span: t.Span, Group: t.Group, Old: t.Gen}
}

// parts tells whether at cuts s in two.
func parts(s api.Span, at string) bool {
	_, _, ok := span.Split(s, at)
	return ok
}

func (m *Master) drawMerge(t api.Tablet, c api.Command) api.Answer {
	ahead, there := m.table.Before(c.At)
	if t.Span.Lo != c.At || !there || ahead.Group != t.Group {
		return told(api.ErrArg)
	}
	// Tablets cover all names: the one ahead ends where t begins.
	both, _ := span.Join(ahead.Span, t.Span)
	return api.Answer{Do: api.DoMerge, At: c.At, Span: both, Group: t.Group}
}
