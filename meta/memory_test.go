package meta_test

import (
	"fmt"
	"slices"
	"testing"

	"wardmote/api"
	"wardmote/meta"
	"wardmote/octet"
)

func fill[T any](l []T, x T) {
	for i := range l {
		l[i] = x
	}
}

// withRoom is l in memory of its own with room behind it, and x in that room.
func withRoom[T any](l []T, x T) []T {
	own := make([]T, len(l), len(l)+3)
	copy(own, l)
	fill(own[len(own):cap(own)], x)
	return own
}

// memory is one list: all of it with its room as a text, without what it leads to, and how to overwrite that.
type memory struct {
	show      func() string
	overwrite func()
}

// memoryOf keeps l's own header, so that it is found again whatever is done around it.
func memoryOf[T any](l []T, x T, show func(T) string) memory {
	all := l[:cap(l)]
	tell := func() string {
		s := ""
		for _, x := range all {
			s += show(x) + ";"
		}
		return s
	}
	return memory{tell, func() { fill(all, x) }}
}

func memoryOfTablets(l []api.Tablet) memory {
	return memoryOf(l, tab("x", "y", 99, 99), func(x api.Tablet) string { return show([]api.Tablet{x}) })
}

// memoriesOfMetas are the list of lists, and each of these.
func memoriesOfMetas(metas [][]api.Tablet) []memory {
	l := []memory{memoryOf(metas, []api.Tablet{tab("x", "y", 99, 99)}, show)}
	for _, x := range metas {
		l = append(l, memoryOfTablets(x))
	}
	return l
}

func shown(l []memory) []string {
	var out []string
	for _, x := range l {
		out = append(out, x.show())
	}
	return out
}

// asks are the calls that answer lists.
func asks() map[string]func(m *meta.Table) []memory {
	return map[string]func(m *meta.Table) []memory{
		"All":   func(m *meta.Table) []memory { return []memory{memoryOfTablets(m.All())} },
		"Metas": func(m *meta.Table) []memory { return memoriesOfMetas(m.Metas()) },
		"Root": func(m *meta.Table) []memory {
			return []memory{memoryOf(m.Root(), "zzz", func(s string) string { return s })}
		},
		"Metas of Copy": func(m *meta.Table) []memory { return memoriesOfMetas(m.Copy().Metas()) },
	}
}

// TestAnswersAreNewMemory: each list of an answer is overwritten, with its
// room: neither the table nor another list of any answer is touched.
func TestAnswersAreNewMemory(t *testing.T) {
	for n := 1; n <= maxTablets; n++ {
		m := made(t, into(n)...)
		copied := m.Copy()
		for what, ask := range asks() {
			for i := range ask(m) {
				answer := ask(m)
				others := slices.Delete(slices.Clone(answer), i, i+1)
				for _, also := range asks() {
					others = append(others, also(m)...)
				}
				// The list of lists is shown with what it leads to: it is left out where one of these is overwritten.
				if len(answer) > 1 && i > 0 {
					others = others[1:]
				}
				was := shown(others)
				answer[i].overwrite()
				if is := shown(others); !slices.Equal(is, was) {
					t.Errorf("R2: %s, list %d of %d tablets shares memory: %q, was %q", what, i, n, is, was)
				}
				wantTable(t, "R2: "+what+": the answer was overwritten", m, into(n))
				wantTable(t, "R2: "+what+": the answer was overwritten", copied, into(n))
			}
		}
	}
}

// TestAnswersStay: the table is changed, and what it had told is as it was.
func TestAnswersStay(t *testing.T) {
	for n := 1; n <= maxTablets; n++ {
		for what, ask := range asks() {
			m := made(t, into(n)...)
			answer := ask(m)
			was := shown(answer)
			for _, x := range m.All() {
				x.Group = 77
				wantPut(t, "another Group", m, api.OK, x)
			}
			wantPut(t, "all as one", m, api.OK, tab("", "", 1, 1))
			wantPut(t, "all anew", m, api.OK, many(maxTablets)...)
			if is := shown(answer); !slices.Equal(is, was) {
				t.Errorf("R2: %s hangs on the table: %q, was %q", what, is, was)
			}
		}
	}
}

// TestHandedIn: a list that is handed in is not changed, its room neither read nor written, and nothing of it is kept.
func TestHandedIn(t *testing.T) {
	wrong := []api.Tablet{tab("p", "", 9, 9), tab("", "g", 9, 9)}
	for _, l := range append(lists(), wrong, many(maxTablets+1), many(40), nil) {
		given := withRoom(l, tab("", "room", 88, 88))
		was := slices.Clone(given[:cap(given)])
		m, why := meta.New(given...)
		other := made(t, three()...)
		otherWhy := other.Put(given...)
		if !slices.Equal(given[:cap(given)], was) {
			t.Errorf("R2: the list that was handed in: %s, was %s", show(given[:cap(given)]), show(was))
		}
		fill(given[:cap(given)], tab("z", "zz", 99, 99))
		if why == api.OK {
			wantTable(t, "R2: the list that New was handed is overwritten", m, l)
		}
		if otherWhy == api.OK {
			wantTable(t, "R2: the list that Put was handed is overwritten", other, l)
		} else {
			wantTable(t, "R2: the list that Put was handed is overwritten", other, three())
		}
	}
}

// TestPutOfItsOwn: what a table told is handed in again, also a piece of it.
func TestPutOfItsOwn(t *testing.T) {
	m := made(t, into(9)...)
	l := m.All()
	wantPut(t, "all of it", m, api.OK, l...)
	wantPut(t, "a piece", m, api.OK, l[2:5]...)
	wantPut(t, "a meta tablet", m, api.OK, m.Metas()[1]...)
	wantTable(t, "P11.1: Put of its own", m, into(9))
	if !slices.Equal(l, into(9)) {
		t.Errorf("R2: the piece's room: %s", show(l))
	}
}

// TestCopy: what is done to one is not seen in the other.
func TestCopy(t *testing.T) {
	for n := 1; n <= maxTablets; n++ {
		m := made(t, into(n)...)
		c := m.Copy()
		wantTable(t, "P11.2: Copy", c, into(n))
		for i, x := range into(n) {
			x.Group = 77
			wantPut(t, "in a copy", c, api.OK, x)
			wantTable(t, fmt.Sprint("P11.2: the table, where its copy's tablet ", i, " is changed"), m, into(n))
		}
		changed := c.All()
		wantPut(t, "in the table", m, api.OK, tab("", "", 3, 3))
		wantTable(t, "P11.2: the copy, where the table is changed", c, changed)
		wantTable(t, "P11.2: the table", m, []api.Tablet{tab("", "", 3, 3)})
		wantPut(t, "in a copy of a copy", c.Copy(), api.OK, tab("", "", 4, 4))
		wantTable(t, "P11.2: the copy, where its copy is changed", c, changed)
	}
}

// TestTablesByThemselves: New makes another one each time.
func TestTablesByThemselves(t *testing.T) {
	l := three()
	a, b := made(t, l...), made(t, l...)
	wantPut(t, "in one of two", a, api.OK, tab("", "", 3, 3))
	wantTable(t, "P11.1: the other one of two", b, three())
}

// TestTakeKeepsNothing: the bytes that are read, and the tables that were taken of them, are by themselves.
func TestTakeKeepsNothing(t *testing.T) {
	for _, l := range lists() {
		b := withRoom(slices.Concat(raw(l...), raw(l...)), 'r')
		was := slices.Clone(b[:cap(b)])
		var first, second *meta.Table
		octet.Read(b, func(r *octet.Reader) { first, second = meta.Take(r), meta.Take(r) })
		wantBytes(t, "R2: the bytes that are read, and their room", b[:cap(b)], was)
		fill(b[:cap(b)], 'z')
		wantTable(t, "R2: Take: the bytes are overwritten", first, l)
		wantPut(t, "in one that was taken", first, api.OK, tab("", "", 3, 3))
		wantTable(t, "R2: Take: the other one is changed", second, l)
	}
}

// TestWriteKeepsNothing: what was written stays, whatever is done to the table behind it, and the other way round.
func TestWriteKeepsNothing(t *testing.T) {
	for _, l := range lists() {
		m := made(t, l...)
		w := octet.New()
		m.Write(w)
		wantTable(t, "R2: the table behind Write", m, l)
		b := w.Done()
		fill(b[:cap(b)], 'z')
		wantTable(t, "R2: the table where its bytes are overwritten", m, l)
		wantPut(t, "behind Write", m, api.OK, tab("", "", 3, 3))
		wantBytes(t, "R2: what Write wrote", w.Done(), raw(l...))
	}
}

// TestNilObjects: nil Tables, Writers and Readers, and Readers that have nothing.
func TestNilObjects(t *testing.T) {
	for _, l := range lists() {
		m := made(t, l...)
		m.Write(nil)
		wantTable(t, "R1: Write to a nil Writer", m, l)
		wantSame(t, "R1: a nil one", nil, m, false)
		var kept *octet.Reader
		octet.Read(raw(l...), func(r *octet.Reader) { kept = r })
		if meta.Take(kept) != nil {
			t.Error("R1: Take of a Reader whose Read has ended: not nil")
		}
	}
	wantSame(t, "R1: two nil ones", nil, nil, false)
	if meta.Take(nil) != nil || meta.Take(&octet.Reader{}) != nil {
		t.Error("R1: Take of a nil or a zero Reader: not nil")
	}
	var w octet.Writer
	made(t, three()...).Write(&w)
	wantBytes(t, "R1: Write to a zero Writer", w.Done(), raw(three()...))
}

// TestNoTables: R1 says that methods are not called on nil or zero values; these do not panic all the same.
func TestNoTables(t *testing.T) {
	for what, m := range map[string]*meta.Table{"nil": nil, "zero": {}} {
		before, ok := m.Before("m")
		if m.Find("m") != (api.Tablet{}) || ok || before != (api.Tablet{}) || len(m.All()) != 0 || m.Len() != 0 {
			t.Errorf("R1: a %s table tells tablets", what)
		}
		if len(m.Metas()) != 0 || len(m.Root()) != 0 || m.Meta("m") != 0 {
			t.Errorf("R1: a %s table tells meta tablets", what)
		}
		if why := m.Put(tab("a", "", 1, 1)); why != api.ErrArg {
			t.Errorf("R1: Put in a %s table: %v", what, why)
		}
		if c := m.Copy(); c.Len() != 0 {
			t.Errorf("R1: Copy of a %s table", what)
		}
		m.Write(nil)
		if taken, ok, _ := take(write(m)); taken != nil || ok {
			t.Errorf("R1: what a %s table writes is a table", what)
		}
		wantSame(t, "R1: a "+what+" one", m, made(t, three()...), false)
	}
	var none *meta.Table
	if why := none.Put(three()...); why != api.ErrArg || none.Copy() != nil {
		t.Errorf("R1: Put in a nil table: %v, a copy of it: %v", why, none.Copy() != nil)
	}
}

// TestTakeGoesOnFailing: an f that catches the Reader's panic by itself gets no table, and its Read is false.
func TestTakeGoesOnFailing(t *testing.T) {
	for _, b := range [][]byte{raw(tab("", "", 1, 0)), raw(), raw(many(17)...), {0}} {
		var m *meta.Table
		ok := octet.Read(b, func(r *octet.Reader) {
			defer func() { recover() }()
			m = meta.Take(r)
		})
		if ok || m != nil {
			t.Errorf("P11.2: Take where its panic is caught: a table: %v, %v", m != nil, ok)
		}
	}
}
