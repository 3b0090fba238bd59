package change_test

import (
	"maps"
	"math/rand"
	"slices"
	"testing"

	"wardmote/api"
	"wardmote/change"
	"wardmote/row"
	"wardmote/value"
)

// model has cells by column and time, as the document's words have them.
type model map[string]map[int64]api.Value

func (m model) put(name string, time int64, v api.Value) api.Errno {
	if m[name] == nil && len(m) == api.MaxColumns {
		return api.ErrFull
	}
	if m[name] == nil {
		m[name] = map[int64]api.Value{}
	}
	m[name][time] = value.Canon(v)
	if times := slices.Sorted(maps.Keys(m[name])); len(times) > api.Versions {
		delete(m[name], times[0])
	}
	return api.OK
}

func (m model) drop(name string, time int64) {
	delete(m[name], time)
	if len(m[name]) == 0 {
		delete(m, name)
	}
}

func (m model) newest(name string) (api.Value, bool) {
	if m[name] == nil {
		return api.Value{}, false
	}
	return m[name][slices.Max(slices.Collect(maps.Keys(m[name])))], true
}

func (m model) add(name string, time int64, v api.Value) api.Errno {
	old, there := m.newest(name)
	switch {
	case there && old.Kind == api.Text:
		return api.ErrKind
	case there:
		v.N = old.N + v.N
	}
	return m.put(name, time, v)
}

func (m model) apply(c api.Change) api.Errno {
	switch c.Kind {
	case api.Put:
		return m.put(c.Col, c.Time, c.V)
	case api.Drop:
		m.drop(c.Col, c.Time)
	case api.DropCol:
		delete(m, c.Col)
	case api.DropRow:
		clear(m)
	case api.Add:
		return m.add(c.Col, c.Time, c.V)
	}
	return api.OK
}

func (m model) copy() model {
	own := model{}
	for name, l := range m {
		own[name] = maps.Clone(l)
	}
	return own
}

// applyAll answers another model with all of l, or the refusal of the first one that is refused.
func (m model) applyAll(l []api.Change) (model, api.Errno) {
	own := m.copy()
	for _, c := range l {
		if why := change.Right(c); why != api.OK {
			return model{}, why
		}
	}
	for _, c := range l {
		if why := own.apply(c); why != api.OK {
			return model{}, why
		}
	}
	return own, api.OK
}

func (m model) row() api.Row {
	var r api.Row
	for _, name := range slices.Sorted(maps.Keys(m)) {
		c := api.Column{Name: name}
		for _, t := range slices.Backward(slices.Sorted(maps.Keys(m[name]))) {
			c.L = append(c.L, at(t, m[name][t]))
		}
		r.L = append(r.L, c)
	}
	return r
}

var someNames = []string{"a", "aa", "b", "\xff", "\x00", longest}

func someValue(rnd *rand.Rand) api.Value {
	switch rnd.Intn(6) {
	case 0:
		return api.Value{Kind: api.Text, B: []byte{byte(rnd.Intn(256))}, N: 3}
	case 1:
		l := rightNumbers()
		return l[rnd.Intn(len(l))]
	}
	return number(float64(rnd.Intn(9)) / 4)
}

// someChange is of any Kind, and nearly always Right.
func someChange(rnd *rand.Rand) api.Change {
	c := api.Change{Kind: api.Put, Col: someNames[rnd.Intn(len(someNames))], Time: rnd.Int63n(6), V: someValue(rnd)}
	switch rnd.Intn(40) {
	case 0:
		c.Kind = api.DropRow
	case 1, 2, 3, 4:
		c.Kind = api.DropCol
	case 5, 6, 7, 8, 9, 10, 11:
		c.Kind = api.Drop
	case 12:
		c.Col = ""
	case 13:
		c.Kind = 0
	}
	if c.Kind == api.Put && rnd.Intn(2) == 0 {
		c.Kind = api.Add
	}
	return c
}

func someChanges(rnd *rand.Rand) []api.Change {
	l := make([]api.Change, rnd.Intn(api.MaxChanges+1))
	for i := range l {
		l[i] = someChange(rnd)
	}
	return l
}

// TestManySteps: whole lists at once against a model, and against the same changes one by one.
func TestManySteps(t *testing.T) {
	rnd := rand.New(rand.NewSource(6))
	counts := map[api.Errno]int{}
	for range 400 {
		m, r := model{}, api.Row{}
		for range 20 {
			l := someChanges(rnd)
			next, is := m.applyAll(l)
			got, why := change.Apply(r, l...)
			counts[why]++
			if want(t, "P5.1: many steps: "+showChanges(l)+" on "+show(r), got, next.row()); why != is {
				t.Errorf("P5.1: many steps: %s on %s: %v, want %v", showChanges(l), show(r), why, is)
			}
			wantOneByOne(t, r, l, got, why)
			if why == api.OK {
				m, r = next, got
			}
			wantCondsHold(t, rnd, m, r)
		}
	}
	for _, why := range []api.Errno{api.OK, api.ErrArg, api.ErrKind, api.ErrFull} {
		if counts[why] < 100 {
			t.Errorf("the steps hardly come to %v: %d times", why, counts[why])
		}
	}
}

// wantOneByOne asks that l, one by one, brings r to what all of them at once brought it to.
func wantOneByOne(t *testing.T, r api.Row, l []api.Change, is api.Row, why api.Errno) {
	t.Helper()
	for _, c := range l {
		next, refused := change.Apply(r, c)
		if refused != api.OK && why == api.OK {
			t.Errorf("P5.1: all at once are applied, one by one not: %s: %v", showChange(c), refused)
		}
		if refused != api.OK {
			return
		}
		r = next
	}
	if want(t, "P5.1: one by one", r, is); why != api.OK {
		t.Errorf("P5.1: one by one all are applied, all at once not: %v", why)
	}
}

func wantCondsHold(t *testing.T, rnd *rand.Rand, m model, r api.Row) {
	t.Helper()
	if !row.Right(r) {
		t.Errorf("P5.1: many steps: not Right: %s", show(r))
	}
	for _, name := range someNames {
		newest, there := m.newest(name)
		wantHolds(t, "many steps", r, none(name), !there)
		wantHolds(t, "many steps", r, is(name, newest), there)
		v := someValue(rnd)
		same := showValue(value.Canon(v)) == showValue(newest)
		wantHolds(t, "many steps", r, is(name, v), there && same)
	}
}
