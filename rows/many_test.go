package rows_test

import (
	"fmt"
	"maps"
	"math/rand"
	"slices"
	"testing"

	"wardmote/api"
	"wardmote/rows"
)

// model has rows by names, as the document's words have them.
type model map[string]api.Row

func (m model) set(name string, r api.Row) api.Errno {
	_, there := m[name]
	switch {
	case name == "" || len(name) > 16:
		return api.ErrArg
	case len(r.L) == 0:
		delete(m, name)
	case !there && len(m) == 32:
		return api.ErrFull
	default:
		m[name] = r
	}
	return api.OK
}

func (m model) list() []api.Named {
	var l []api.Named
	for _, name := range slices.Sorted(maps.Keys(m)) {
		l = append(l, api.Named{Name: name, R: m[name]})
	}
	return l
}

// parts are the rows below at, and the others.
func (m model) parts(at string) (model, model) {
	low, high := model{}, model{}
	for name, r := range m {
		if name < at {
			low[name] = r
		} else {
			high[name] = r
		}
	}
	return low, high
}

// join is one of both, by the document's words.
func (m model) join(other model) (model, api.Errno) {
	for a := range m {
		for b := range other {
			if a >= b {
				return nil, api.ErrArg
			}
		}
	}
	if len(m)+len(other) > 32 {
		return nil, api.ErrFull
	}
	both := maps.Clone(m)
	maps.Copy(both, other)
	return both, api.OK
}

func someName(rnd *rand.Rand) string {
	switch rnd.Intn(30) {
	case 0:
		return []string{"", tooLong, longest, "\x00", "\xff"}[rnd.Intn(5)]
	case 1:
		return string([]byte{byte(rnd.Intn(256)), byte(rnd.Intn(256))})
	}
	return fmt.Sprintf("%c%c", 'a'+rnd.Intn(4), '0'+rnd.Intn(10))
}

func someRow(rnd *rand.Rand) api.Row {
	switch rnd.Intn(8) {
	case 0:
		return api.Row{}
	case 1:
		return full()
	case 2:
		return of(col("n", at(rnd.Int63n(9), number(rnd.NormFloat64()))))
	}
	return plain(fmt.Sprint(rnd.Intn(1000)))
}

// pair is a table, and what it is to be.
type pair struct {
	x *rows.Table
	m model
}

func (p *pair) set(t *testing.T, rnd *rand.Rand) api.Errno {
	t.Helper()
	name, r := someName(rnd), someRow(rnd)
	why := p.x.Set(name, r)
	wantCode(t, fmt.Sprintf("P6.1: many steps: Set(%q)", name), why, p.m.set(name, r))
	return why
}

// split parts p, holds the parts against the model's, and joins them again.
func (p *pair) split(t *testing.T, rnd *rand.Rand) {
	t.Helper()
	at := someName(rnd)
	low, high := p.x.Split(at)
	l, h := p.m.parts(at)
	wantTable(t, "P6.2: many steps: Split, below", low, l.list())
	wantTable(t, "P6.2: many steps: Split, from on", high, h.list())
	both, why := rows.Join(low, high)
	wantCode(t, "P6.2: many steps: Join of both parts", why, api.OK)
	p.x = both
}

func (p *pair) readBack(t *testing.T) {
	t.Helper()
	x, ok, _ := take(write(p.x))
	if !ok || !rows.Same(x, p.x) {
		t.Errorf("P6.2: many steps: Take of Write of %s: %v", show(p.m.list()), ok)
		return
	}
	p.x = x
}

func (p *pair) ranges(t *testing.T, rnd *rand.Rand) {
	t.Helper()
	lo, hi, most := someName(rnd), someName(rnd), rnd.Intn(40)-4
	want, left := rangeOf(p.m.list(), lo, hi, most)
	wantRange(t, p.x, lo, hi, most, want, left)
}

// step does one thing, of any kind, to both.
func (p *pair) step(t *testing.T, rnd *rand.Rand, counts map[api.Errno]int) {
	t.Helper()
	switch rnd.Intn(24) {
	case 0:
		p.split(t, rnd)
	case 1:
		p.readBack(t)
	case 2:
		p.x = p.x.Copy()
	case 3, 4:
		p.ranges(t, rnd)
	default:
		counts[p.set(t, rnd)]++
	}
}

func TestManySteps(t *testing.T) {
	rnd := rand.New(rand.NewSource(6))
	counts := map[api.Errno]int{}
	for range 60 {
		p := pair{rows.New(), model{}}
		for range 120 {
			p.step(t, rnd, counts)
			wantTable(t, "P6.1: many steps", p.x, p.m.list())
		}
	}
	for _, why := range []api.Errno{api.OK, api.ErrArg, api.ErrFull} {
		if counts[why] < 50 {
			t.Errorf("the steps hardly come to %v: %d times", why, counts[why])
		}
	}
}

func somePair(t *testing.T, rnd *rand.Rand, names []string) pair {
	t.Helper()
	p := pair{rows.New(), model{}}
	for range rnd.Intn(40) {
		name := names[rnd.Intn(len(names))]
		wantCode(t, "P6.1: many tables: Set", p.x.Set(name, plain(name)), p.m.set(name, plain(name)))
	}
	return p
}

// TestManyJoins: of tables whose names now and then meet.
func TestManyJoins(t *testing.T) {
	rnd := rand.New(rand.NewSource(7))
	counts := map[api.Errno]int{}
	all := counted("k", 60)
	for range 1500 {
		cut := 5 + rnd.Intn(50)
		a := somePair(t, rnd, all[:min(cut+rnd.Intn(2), 60)])
		b := somePair(t, rnd, all[cut:])
		both, why := rows.Join(a.x, b.x)
		want, is := a.m.join(b.m)
		counts[why]++
		wantCode(t, "P6.2: many Joins", why, is)
		if is == api.OK {
			wantTable(t, "P6.2: many Joins", both, want.list())
		} else if both != nil {
			t.Error("R3: many Joins: a table beside a refusal")
		}
		if got := rows.Same(a.x, b.x); got != (show(a.m.list()) == show(b.m.list())) {
			t.Errorf("P6.2: Same of %s and %s: %v", show(a.m.list()), show(b.m.list()), got)
		}
	}
	for _, why := range []api.Errno{api.OK, api.ErrArg, api.ErrFull} {
		if counts[why] < 50 {
			t.Errorf("the Joins hardly come to %v: %d times", why, counts[why])
		}
	}
}
