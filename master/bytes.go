package master

import (
	"slices"

	"wardmote/api"
	"wardmote/cmd"
	"wardmote/meta"
	"wardmote/octet"
	"wardmote/once"
	"wardmote/span"
)

// Save answers all of the master as bytes. Of the plan under way it has what was asked: the tablets and the last Gen tell the rest.
func (m *Master) Save() []byte {
	if m.isNone() {
		return nil
	}
	w := octet.New()
	w.Byte(byte(m.groups))
	w.Num(uint32(m.last))
	m.table.Write(w)
	m.cache.Write(w)
	w.Byte(byte(m.pending.Do))
	w.Text([]byte(m.pending.At))
	w.Byte(byte(m.pending.To))
	return w.Done()
}

// Load answers the master that Save wrote as b; false of bytes that it did not write.
func Load(b []byte) (*Master, bool) {
	m := &Master{}
	if !octet.Read(b, m.take) {
		return nil, false
	}
	return m, true
}

// take takes what Save wrote; r fails of anything else.
func (m *Master) take(r *octet.Reader) {
	m.groups = int(r.Byte())
	m.last = int(r.Num())
	m.table = meta.Take(r)
	m.cache = once.Take(r)
	c := api.Command{Kind: api.Plan, Do: int(r.Byte()), At: string(r.Text(api.MaxName)), To: int(r.Byte())}
	if !rightGroups(m.groups) || m.last > maxGen || !m.resume(c) || !m.rightTablets() || !m.rightReplies() {
		r.Fail()
	}
}

// resume lets the plan be under way that c asked for; false, if there can't be one, or if it is written in another way.
func (m *Master) resume(c api.Command) bool {
	if c.Do == 0 {
		return c.At == "" && c.To == 0
	}
	if !cmd.Right(c) {
		return false
	}
	// It has the last Gen: the one ahead of that was the last when it began.
	m.last--
	a := m.begin(c)
	return a.Code == api.OK && a.To == c.To
}

// rightTablets tells whether plans may have brought the tablets to where they are.
func (m *Master) rightTablets() bool {
	newest := m.last
	if m.isBusy() {
		// Nothing of the plan under way is there yet.
		newest--
	}
	l := m.All()
	// Each one more than the first needs a plan of its own.
	if len(l) > newest {
		return false
	}
	for i, t := range l {
		if !m.mayBe(t, newest) || clashes(l[:i], t) {
			return false
		}
	}
	return true
}

// mayBe tells whether there may be such a tablet when newest is the last Gen.
func (m *Master) mayBe(t api.Tablet, newest int) bool {
	return t.Gen <= newest && (t == first() || m.isGroup(t.Group) && t.Gen > first().Gen)
}

// clashes tells whether one of l, which are ahead of t, has t's Gen, though one
// plan can't have made both: only the parts of a split have one Gen, and they
// touch. So there are no three of one Gen: the first does not touch the third.
func clashes(l []api.Tablet, t api.Tablet) bool {
	return slices.ContainsFunc(l, func(x api.Tablet) bool {
		return x.Gen == t.Gen && (x.Span.Hi != t.Span.Lo || x.Group != t.Group)
	})
}

// reply is what a client was told of its number.
type reply struct {
	seq    int
	answer api.Answer
}

// isPlan tells whether it is one, and no refusal.
func (x reply) isPlan() bool {
	return x.answer.Code == api.OK
}

// rightReplies tells whether requests for plans may have been told what the cache has.
func (m *Master) rightReplies() bool {
	l := replies(m.cache)
	if !toldAbove(l, first().Gen, m.last) {
		return false
	}
	for i, x := range l {
		if !m.tells(x.answer) {
			return false
		}
		if x.isPlan() && (hasGen(l[:i], x.answer.Gen) || !toldAbove(l, x.answer.Gen, m.last)) {
			return false
		}
	}
	return true
}

// replies answers what c has, by the bytes that it writes.
func replies(c *once.Cache) []reply {
	w := octet.New()
	c.Write(w)
	var l []reply
	octet.Read(w.Done(), func(r *octet.Reader) {
		for range r.Num() {
			l = append(l, takeReply(r))
		}
	})
	return l
}

// takeReply takes what one client was told. Bytes that are no answer are taken
// as a zero one: a request for a plan is not told that either.
func takeReply(r *octet.Reader) reply {
	// Who was told does not matter.
	r.Byte()
	seq := int(r.Num())
	a, _ := cmd.DecodeAnswer(r.Text(api.MaxBytes))
	return reply{seq, a}
}

// toldAbove tells whether clients may have been told all Gens above gen, each
// by a number of its own: by one that is not above its client's last number,
// and none behind a plan with a lower Gen.
func toldAbove(l []reply, gen, last int) bool {
	room := int64(0)
	for _, x := range l {
		switch {
		case !x.isPlan():
			room += int64(x.seq) - 1
		case x.answer.Gen > gen:
			room += int64(x.seq)
		}
	}
	return int64(last-gen) <= room
}

func hasGen(l []reply, gen int) bool {
	return slices.ContainsFunc(l, func(x reply) bool { return x.answer.Gen == gen })
}

// tells tells whether a request for a plan may have been told a.
func (m *Master) tells(a api.Answer) bool {
	if a.Code == api.OK {
		return m.tellsPlan(a) && m.fits(a)
	}
	return m.refuses(a.Code) && cmd.SameAnswer(a, told(a.Code))
}

// refuses tells whether a request for a plan may have been refused so.
func (m *Master) refuses(why api.Errno) bool {
	switch why {
	case api.ErrArg:
		return true
	case api.ErrBusy:
		// A plan was under way.
		return m.last > first().Gen
	case api.ErrFull:
		// There were that many tablets, each but the first by a plan of its own.
		return m.last >= api.MaxTablets
	}
	return false
}

// tellsPlan tells whether a is a plan, of tablets that there may have been.
func (m *Master) tellsPlan(a api.Answer) bool {
	if len(a.Rows) > 0 || len(a.State) > 0 {
		return false
	}
	t := api.Tablet{Span: a.Span, Group: a.Group, Gen: a.Old}
	switch a.Do {
	case api.DoMove:
		return m.mayBe(t, a.Gen-1) && span.Has(a.Span, a.At) && m.mayMove(a.Group, a.To)
	case api.DoSplit:
		return m.mayBe(t, a.Gen-1) && parts(a.Span, a.At) && a.To == 0
	case api.DoMerge:
		// There were two tablets: the plan that made them was ahead of this one.
		return a.Gen > first().Gen+1 && m.isGroup(a.Group) && parts(a.Span, a.At) && a.To == 0 && a.Old == 0
	}
	return false
}

// fits tells whether nothing that there is with this plan's Gen is of another plan.
func (m *Master) fits(plan api.Answer) bool {
	if plan.Gen > m.last || m.isBusy() && plan.Gen == m.last && !cmd.SameAnswer(plan, m.pending) {
		return false
	}
	l := made(plan)
	for _, t := range m.All() {
		if t.Gen == plan.Gen && !slices.Contains(l, t) {
			return false
		}
	}
	return true
}
