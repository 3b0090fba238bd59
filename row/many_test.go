package row_test

import (
	"fmt"
	"maps"
	"math/rand"
	"slices"
	"testing"

	"wardmote/api"
	"wardmote/row"
)

// model has cells by column and time, as the document's words have them.
type model map[string]map[int64]api.Value

func (m model) put(name string, time int64, v api.Value) api.Errno {
	if m[name] == nil && len(m) == api.MaxColumns {
		return api.ErrFull
	}
	if m[name] == nil {
		m[name] = map[int64]api.Value{}
	}
	m[name][time] = v
	if times := slices.Sorted(maps.Keys(m[name])); len(times) > api.Versions {
		delete(m[name], times[0])
	}
	return api.OK
}

func (m model) drop(name string, time int64) {
	delete(m[name], time)
	if len(m[name]) == 0 {
		delete(m, name)
	}
}

func (m model) at(name string, time int64) (v api.Value, ok bool) {
	for _, t := range slices.Sorted(maps.Keys(m[name])) {
		if t <= time {
			v, ok = m[name][t], true
		}
	}
	return v, ok
}

func (m model) row() api.Row {
	var r api.Row
	for _, name := range slices.Sorted(maps.Keys(m)) {
		c := api.Column{Name: name}
		for _, t := range slices.Backward(slices.Sorted(maps.Keys(m[name]))) {
			c.L = append(c.L, at(t, m[name][t]))
		}
		r.L = append(r.L, c)
	}
	return r
}

// step does one thing, of any kind, to both.
func step(t *testing.T, rnd *rand.Rand, m model, r api.Row) api.Row {
	name := []string{"a", "aa", "b", "\xff", "\x00", longest}[rnd.Intn(6)]
	time := rnd.Int63n(6)
	switch rnd.Intn(8) {
	case 0:
		delete(m, name)
		return row.DropCol(r, name)
	case 1, 2:
		m.drop(name, time)
		return row.Drop(r, name, time)
	}
	v := someValue(rnd)
	got, why := row.Put(r, name, time, v)
	if is := m.put(name, time, v); why != is {
		t.Errorf("P4.1: Put(%q, %d): %v, want %v", name, time, why, is)
	}
	if why != api.OK {
		want(t, "R3: Put, beside a refusal", got, api.Row{})
		return r
	}
	return got
}

func TestManySteps(t *testing.T) {
	rnd := rand.New(rand.NewSource(6))
	for range 200 {
		m, r := model{}, api.Row{}
		for range 60 {
			r = step(t, rnd, m, r)
			want(t, "P4.1: many steps", r, m.row())
			if !row.Right(r) || !row.Same(r, m.row()) {
				t.Errorf("P4.1: many steps: not Right, or not the same: %s", show(r))
			}
			for _, name := range []string{"a", "aa", "b", longest} {
				wantTold(t, "P4.2: Newest, many steps", told(row.Newest(r, name)), told(m.at(name, api.MaxTime)))
				for time := range int64(7) {
					wantTold(t, "P4.2: At, many steps", told(row.At(r, name, time-1)), told(m.at(name, time-1)))
				}
			}
		}
	}
}

// TestNewestOfManyPuts: in whatever order versions were put, the one of the greatest time is the newest.
func TestNewestOfManyPuts(t *testing.T) {
	rnd := rand.New(rand.NewSource(7))
	for range 500 {
		var r api.Row
		last := map[string]int64{}
		for i, n := range rnd.Perm(12) {
			name := string(rune('a' + rnd.Intn(api.MaxColumns)))
			time := int64(n) * (api.MaxTime / 11)
			r, _ = row.Put(r, name, time, text(fmt.Sprint(i, " ", time)))
			if l, there := last[name]; !there || time > l {
				last[name] = time
				wantTold(t, "P4.4: Newest of what was put at the greatest time", told(row.Newest(r, name)), told(text(fmt.Sprint(i, " ", time)), true))
			}
			if v, _ := row.Newest(r, name); string(v.B) != newestText(r, name, last[name]) {
				t.Errorf("P4.4: Newest(%s) is %q, the greatest time is %d", name, v.B, last[name])
			}
		}
	}
}

// newestText is the text at that time, found without row.
func newestText(r api.Row, name string, time int64) string {
	for _, c := range r.L {
		for _, v := range c.L {
			if c.Name == name && v.Time == time {
				return string(v.V.B)
			}
		}
	}
	return "none"
}

// TestPutsInEachOrder: what is left of some versions does not hang on the order in which they are put.
func TestPutsInEachOrder(t *testing.T) {
	times := []int64{0, 3, 4, api.MaxTime}
	is := of(col("a", at(api.MaxTime, number(3)), at(4, number(2))))
	rnd := rand.New(rand.NewSource(8))
	for range 200 {
		var r api.Row
		for _, i := range rnd.Perm(len(times)) {
			r, _ = row.Put(r, "a", times[i], number(float64(i)))
		}
		want(t, "P4.4: Puts in any order", r, is)
	}
}
