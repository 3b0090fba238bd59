package master

import (
	"wardmote/api"
	"wardmote/cmd"
	"wardmote/meta"
	"wardmote/octet"
	"wardmote/once"
)

// Save answers all of the master as bytes. Of the plan under way it has what was asked: the tablets and the last Gen tell the rest.
func (m *Master) Save() []byte {
	if m.isNone() {
		return nil
	}
	w := octet.New()
	w.Byte(byte(m.groups))
	w.Num(uint32(m.last))
	m.table.Write(w)
	m.cache.Write(w)
	w.Byte(byte(m.pending.Do))
	w.Text([]byte(m.pending.At))
	w.Byte(byte(m.pending.To))
	return w.Done()
}

// Load answers the master that Save wrote as b; false of bytes that it did not write.
func Load(b []byte) (*Master, bool) {
	m := &Master{}
	if !octet.Read(b, m.take) {
		return nil, false
	}
	return m, true
}

// take takes what Save wrote; r fails of anything else.
func (m *Master) take(r *octet.Reader) {
	m.groups = int(r.Byte())
	m.last = int(r.Num())
	m.table = meta.Take(r)
	m.cache = once.Take(r)
	c := api.Command{Kind: api.Plan, Do: int(r.Byte()), At: string(r.Text(api.MaxName)), To: int(r.Byte())}
	if !rightGroups(m.groups) || m.last > maxGen || !m.resume(c) || !m.rightTablets() || !m.rightReplies() {
		r.Fail()
	}
}

// resume lets the plan be under way that c asked for; false, if there can't be one, or if it is written in another way.
func (m *Master) resume(c api.Command) bool {
	if c.Do == 0 {
		return c.At == "" && c.To == 0
	}
	if !cmd.Right(c) {
		return false
	}
	// It has the last Gen: the one ahead of that was the last when it began.
	m.last--
	a := m.begin(c)
	return a.Code == api.OK && a.To == c.To
}

// ended answers the last Gen of a plan that is not under way any more, or of the first tablet.
func (m *Master) ended() int {
	if m.isBusy() {
		return m.last - 1
	}
	return m.last
}

// rightTablets tells whether each tablet by itself may be there: nothing of the plan under way is there yet.
func (m *Master) rightTablets() bool {
	for _, t := range m.All() {
		if !m.mayBe(t, m.ended()) {
			return false
		}
	}
	return true
}

// mayBe tells whether there may be such a tablet when newest is the last Gen.
func (m *Master) mayBe(t api.Tablet, newest int) bool {
	return t.Gen <= newest && (t == first() || m.isGroup(t.Group) && t.Gen > first().Gen)
}
