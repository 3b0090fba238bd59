package master

import (
	"cmp"
	"slices"
	"sort"

	"wardmote/api"
	"wardmote/cmd"
	"wardmote/octet"
	"wardmote/once"
	"wardmote/span"
)

// reply is what a client was told of its number.
type reply struct {
	seq    int
	answer api.Answer
}

// isPlan tells whether it is one, and no refusal.
func (x reply) isPlan() bool {
	return x.answer.Code == api.OK
}

// replies answers what c has, by the bytes that it writes.
func replies(c *once.Cache) []reply {
	w := octet.New()
	c.Write(w)
	var l []reply
	octet.Read(w.Done(), func(r *octet.Reader) {
		for range r.Num() {
			l = append(l, takeReply(r))
		}
	})
	return l
}

// takeReply takes what one client was told. Bytes that are no answer are taken
// as a zero one: a request for a plan is not told that either.
func takeReply(r *octet.Reader) reply {
	// Who was told does not matter.
	r.Byte()
	seq := int(r.Num())
	a, _ := cmd.DecodeAnswer(r.Text(api.MaxBytes))
	return reply{seq, a}
}

// rightReplies tells whether requests for plans may have been told what the cache has, and plans led to the tablets.
func (m *Master) rightReplies() bool {
	l := replies(m.cache)
	for _, x := range l {
		if !m.tells(x.answer) {
			return false
		}
	}
	plans := plansOf(l)
	full, ok := m.fullSince(l, plans)
	return ok && rising(plans) && mayHaveBeen(question{m.groups, api.MaxTablets, upTo(plans, m.ended()), m.ended(), m.All(), full})
}

// plansOf answers the plans among what was told, in the order of their Gens.
func plansOf(l []reply) []api.Answer {
	var plans []api.Answer
	for _, x := range l {
		if x.isPlan() {
			plans = append(plans, x.answer)
		}
	}
	slices.SortFunc(plans, func(a, b api.Answer) int { return cmp.Compare(a.Gen, b.Gen) })
	return plans
}

// rising tells whether no two of these plans, in order, have one Gen: each is told to one client, of one number.
func rising(plans []api.Answer) bool {
	for i := range plans {
		if i > 0 && plans[i-1].Gen == plans[i].Gen {
			return false
		}
	}
	return true
}

// upTo answers those of these plans, by rising Gens, that are not above gen.
func upTo(plans []api.Answer, gen int) []api.Answer {
	i, there := placeOf(plans, gen)
	if there {
		i++
	}
	return plans[:i]
}

// placeOf answers where the plan with gen is, or would be.
func placeOf(plans []api.Answer, gen int) (int, bool) {
	return slices.BinarySearchFunc(plans, gen, func(x api.Answer, gen int) int {
		return cmp.Compare(x.Gen, gen)
	})
}

// tells tells whether a request for a plan may have been told a, as far as it tells that by itself.
func (m *Master) tells(a api.Answer) bool {
	if a.Code == api.OK {
		return m.tellsPlan(a)
	}
	return m.refuses(a.Code) && cmd.SameAnswer(a, told(a.Code))
}

// refuses tells whether a request for a plan may have been refused so.
func (m *Master) refuses(why api.Errno) bool {
	switch why {
	case api.ErrArg, api.ErrFull:
		return true
	case api.ErrBusy:
		// A plan was under way.
		return m.last > first().Gen
	}
	return false
}

// tellsPlan tells whether a is a plan that has ended, of tablets that there may have been, or the one under way.
func (m *Master) tellsPlan(a api.Answer) bool {
	if len(a.Rows) > 0 || len(a.State) > 0 || a.Gen > m.ended() && !cmd.SameAnswer(a, m.pending) {
		return false
	}
	t := api.Tablet{Span: a.Span, Group: a.Group, Gen: a.Old}
	switch a.Do {
	case api.DoMove:
		return m.mayBe(t, a.Gen-1) && span.Has(a.Span, a.At) && m.mayMove(a.Group, a.To)
	case api.DoSplit:
		return m.mayBe(t, a.Gen-1) && parts(a.Span, a.At) && a.To == 0
	case api.DoMerge:
		return m.isGroup(a.Group) && parts(a.Span, a.At) && a.To == 0 && a.Old == 0
	}
	return false
}

// fullSince answers the first Gen at which the last client may have been told
// that there are MaxTablets, if clients had numbers enough to be told all plans
// then; 0, if none was told that. It is false if they can't have been told all.
func (m *Master) fullSince(l []reply, plans []api.Answer) (int, bool) {
	if !m.wasFull(l) {
		return 0, m.mayTellAll(l, plans, m.ended())
	}
	full := sort.Search(m.ended()+1, func(gen int) bool { return m.mayTellAll(l, plans, gen) })
	return max(full, first().Gen), full <= m.ended()
}

// wasFull tells whether a client was told that there are MaxTablets. If all Gens have been used up ErrFull tells just that.
func (m *Master) wasFull(l []reply) bool {
	return m.ended() < maxGen && slices.ContainsFunc(l, func(x reply) bool { return x.answer.Code == api.ErrFull })
}

// mayTellAll tells whether clients may have been told all plans, each by a number
// of its own, if full was the last Gen when the last was told that there are
// MaxTablets. A plan that is not known was told by a number that was not its
// client's last one. Each finds such a number if, above any Gen, there are no
// more of these plans than of numbers by which they may have been told.
func (m *Master) mayTellAll(l []reply, plans []api.Answer, full int) bool {
	l = slices.Clone(l)
	slices.SortFunc(l, func(a, b reply) int { return cmp.Compare(m.before(b, full), m.before(a, full)) })
	numbers := int64(0)
	for _, x := range l {
		if m.unknownAbove(plans, m.before(x, full)) > numbers {
			return false
		}
		numbers += int64(x.seq) - 1
	}
	return m.unknownAbove(plans, first().Gen) <= numbers
}

// unknownAbove answers how many plans above gen are not among these.
func (m *Master) unknownAbove(plans []api.Answer, gen int) int64 {
	return int64(m.last - gen - (len(plans) - len(upTo(plans, gen))))
}

// before answers the last Gen that there may have been when the client of x was told something else than x, by a number ahead of it.
func (m *Master) before(x reply, full int) int {
	switch x.answer.Code {
	case api.OK:
		return x.answer.Gen - 1
	case api.ErrBusy:
		// It may have been told this when the last plan was under way.
		return m.last
	case api.ErrFull:
		return full
	}
	return m.ended()
}
