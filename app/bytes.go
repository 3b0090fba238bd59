package app

import (
	"bytes"

	"wardmote/api"
	"wardmote/master"
	"wardmote/tablet"
)

// The highest client and the highest number of a request. Clients begin at 0.
const (
	lastClient = 255
	lastSeq    = 1 << 30
)

// Save answers all of the master, or of the tablets, as bytes. Who loads them knows which group it is, and of how many.
func (a *App) Save() []byte {
	switch {
	case a.hasMaster():
		return a.master.Save()
	case a.hasTablets():
		return a.tablets.Save()
	}
	return nil
}

// Load answers the group that Save wrote as b; false of bytes that this group, of so many, did not write.
func Load(group, groups int, b []byte) (*App, bool) {
	if !mayBe(group, groups) {
		return nil, false
	}
	a := &App{group: group}
	ok := false
	switch group {
	case mastersGroup:
		a.master, ok = loadMaster(groups, b)
	case firstGroup:
		a.tablets, ok = tablet.Load(b)
		ok = ok && beganWithOne(a.tablets)
	default:
		a.tablets, ok = tablet.Load(b)
	}
	if !ok {
		return nil, false
	}
	return a, true
}

// beganWithOne tells whether s may have begun with the first group's tablet. It
// has no other one with that Gen, and what is told of that Gen is OK for good.
func beganWithOne(s *tablet.Store) bool {
	for _, t := range append(s.Live(), s.Frozen()...) {
		if t.Gen == firstGen && t.Span != (api.Span{}) {
			return false
		}
	}
	return s.Last() > firstGen || s.Last() == firstGen && lastCode(s) == api.OK
}

// lastCode answers what s has told of its last Gen: who asks for it again is told that, and nothing is done.
func lastCode(s *tablet.Store) api.Errno {
	return s.Do(0, 0, api.Command{Kind: api.Split, Gen: s.Last(), At: "m"}).Code
}

// loadMaster answers the master that was saved as b, if it has so many groups.
func loadMaster(groups int, b []byte) (*master.Master, bool) {
	m, ok := master.Load(b)
	if !ok || !hasGroups(m, groups) {
		return nil, false
	}
	// That was asked of has changed.
	return master.Load(b)
}

// hasGroups tells whether m has so many groups: it asks for moves, so that m has changed then.
func hasGroups(m *master.Master, groups int) bool {
	giveUp(m)
	for to := 1; to <= api.MaxGroups; to++ {
		if may, known := mayMove(m, to); known && may != (to <= groups) {
			return false
		}
	}
	return true
}

// giveUp lets no plan be under way in m.
func giveUp(m *master.Master) {
	plan, _ := m.Pending()
	m.Do(0, 0, api.Command{Kind: api.Publish, Gen: plan.Gen, To: -1})
}

// mayMove tells whether tablets of m may be in group to, and whether that can be known.
func mayMove(m *master.Master, to int) (may, known bool) {
	if m.All()[0].Group == to {
		return true, true
	}
	why, known := freshPlan(m, api.Command{Kind: api.Plan, Do: api.DoMove, To: to})
	giveUp(m)
	return why != api.ErrArg, known
}

// freshPlan answers what is told of c, asked with a number of which nothing was told yet; false, if no client has one left.
func freshPlan(m *master.Master, c api.Command) (api.Errno, bool) {
	was := m.Save()
	for client := range lastClient + 1 {
		a := m.Do(client, lastSeq, c)
		if !bytes.Equal(m.Save(), was) {
			return a.Code, true
		}
	}
	return api.OK, false
}
