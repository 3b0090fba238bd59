package meta_test

import (
	"fmt"
	"math"
	"slices"
	"strings"
	"testing"

	"wardmote/api"
	"wardmote/meta"
)

// The edges that the document names.
const (
	maxGroup   = 255
	maxGen     = 1 << 30
	maxTablets = 16
	perMeta    = 4

	longest = "sixteen.bytes.lo"
	tooLong = "sixteen.bytes.lon"
)

func tab(lo, hi string, group, gen int) api.Tablet {
	return api.Tablet{Span: api.Span{Lo: lo, Hi: hi}, Group: group, Gen: gen}
}

// show tells no more of a list than any table may have, and some.
func show(l []api.Tablet) string {
	s := fmt.Sprint(len(l), " [")
	for _, x := range l[:min(len(l), 2*maxTablets)] {
		s += fmt.Sprintf(" %.20q-%.20q@%d#%d", x.Span.Lo, x.Span.Hi, x.Group, x.Gen)
	}
	return s + " ]"
}

// someCuts rise. Some have no text between them, as a and a\x00 have none.
func someCuts() []string {
	return []string{
		"\x00", "\x00\x00", "A", "a", "a\x00", "aa", "ab", "b", "c", "m",
		longest, longest[:15] + "p", "t", "\x7f", "\x80", "\xff", "\xff\xff",
	}
}

// cut are tablets of all names, cut at these. Groups and Gens differ from one another.
func cut(at ...string) []api.Tablet {
	var l []api.Tablet
	lo := ""
	for i, hi := range append(slices.Clone(at), "") {
		l = append(l, tab(lo, hi, i*15, 1+i*7))
		lo = hi
	}
	return l
}

// into are n tablets of all names.
func into(n int) []api.Tablet {
	return cut(someCuts()[:n-1]...)
}

func made(t *testing.T, l ...api.Tablet) *meta.Table {
	t.Helper()
	m, why := meta.New(l...)
	if why != api.OK || m == nil {
		t.Fatalf("P11.1: New of %s: %v, a table: %v", show(l), why, m != nil)
	}
	return m
}

// below is a name just below lo, which is not empty: with no text between them, or none of up to 16 bytes.
func below(lo string) string {
	n := len(lo) - 1
	if lo[n] == 0 {
		return lo[:n]
	}
	return lo[:n] + string([]byte{lo[n] - 1}) + strings.Repeat("\xff", 16)
}

// namesAround are the empty name, each Lo, names just below and just behind it, and names behind all.
func namesAround(l []api.Tablet) []string {
	out := []string{"", strings.Repeat("\xff", 16), strings.Repeat("\xff", 40), strings.Repeat("z", 1<<16)}
	for _, x := range l {
		out = append(out, x.Span.Lo, x.Span.Lo+"\x00", x.Span.Lo+"\xff")
		if x.Span.Lo != "" {
			out = append(out, below(x.Span.Lo))
		}
	}
	return out
}

// whose tells by the document's words which one of l has name.
func whose(t *testing.T, l []api.Tablet, name string) int {
	t.Helper()
	at, n := 0, 0
	for i, x := range l {
		if name >= x.Span.Lo && (x.Span.Hi == "" || name < x.Span.Hi) {
			at, n = i, n+1
		}
	}
	if n != 1 {
		t.Fatalf("W3: %d tablets of %s have %.20q", n, show(l), name)
	}
	return at
}

// wantTable asks for these tablets, in all that a table tells of them.
func wantTable(t *testing.T, what string, m *meta.Table, want []api.Tablet) {
	t.Helper()
	if got := m.All(); !slices.Equal(got, want) {
		t.Errorf("%s: All: %s, want %s", what, show(got), show(want))
		return
	}
	if m.Len() != len(want) {
		t.Errorf("%s: Len: %d, want %d", what, m.Len(), len(want))
	}
	for _, name := range namesAround(want) {
		wantFound(t, what, m, want, name)
	}
	wantLevels(t, what, m, want)
}

// wantFound holds Find and Before of name against the list of all.
func wantFound(t *testing.T, what string, m *meta.Table, all []api.Tablet, name string) {
	t.Helper()
	i := whose(t, all, name)
	if got := m.Find(name); got != all[i] {
		t.Errorf("%s: Find(%.20q): %s, want %s", what, name, show([]api.Tablet{got}), show(all[i:i+1]))
	}
	ahead := api.Tablet{}
	if i > 0 {
		ahead = all[i-1]
	}
	if got, ok := m.Before(name); got != ahead || ok != (i > 0) {
		t.Errorf("%s: Before(%.20q): %s, %v, want %s, %v", what, name, show([]api.Tablet{got}), ok, show([]api.Tablet{ahead}), i > 0)
	}
}

// TestTests: what the other tests build on.
func TestTests(t *testing.T) {
	if !slices.IsSorted(someCuts()) || len(someCuts()) != maxTablets+1 {
		t.Errorf("the test's own cuts: %q", someCuts())
	}
	if len(longest) != api.MaxName || len(tooLong) != api.MaxName+1 || maxTablets != api.MaxTablets || perMeta != api.PerMeta {
		t.Error("the test's own numbers")
	}
	for _, lo := range someCuts() {
		if below(lo) >= lo {
			t.Errorf("the test's own name below %q: %q", lo, below(lo))
		}
	}
}

// TestRuns: the chapter's run and examples.
func TestRuns(t *testing.T) {
	m := made(t, tab("", "", 1, 1))
	if why := m.Put(tab("", "m", 1, 2), tab("m", "", 1, 2)); why != api.OK || m.Len() != 2 {
		t.Errorf("P11.1: the run: %v, Len %d", why, m.Len())
	}
	if none, why := meta.New(); none != nil || why != api.ErrArg {
		t.Errorf("P11.1: example 1: %v, a table: %v", why, none != nil)
	}
	if why := m.Put(tab("", "c", 1, 3)); why != api.ErrArg || m.Len() != 2 {
		t.Errorf("P11.1: example 2: %v, Len %d", why, m.Len())
	}
}

// TestNewOfEachNumber: also the table of one tablet, and the one of MaxTablets.
func TestNewOfEachNumber(t *testing.T) {
	for n := 1; n <= maxTablets; n++ {
		wantTable(t, fmt.Sprint("P11.1: New of ", n), made(t, into(n)...), into(n))
		tail := cut(someCuts()[len(someCuts())+1-n:]...)
		wantTable(t, fmt.Sprint("P11.1: New of ", n, ", cut far behind"), made(t, tail...), tail)
	}
}

func wantRefused(t *testing.T, what string, want api.Errno, l ...api.Tablet) {
	t.Helper()
	m, why := meta.New(l...)
	if why != want || m != nil {
		t.Errorf("P11.1: New of %s, %s: %v, a table: %v, want %v", show(l), what, why, m != nil, want)
	}
}

func TestNewRefuses(t *testing.T) {
	for _, x := range []struct {
		what string
		l    []api.Tablet
	}{
		{"none", nil},
		{"an empty list", []api.Tablet{}},
		{"an empty list with room", into(1)[:0]},
		{"the first name left out", []api.Tablet{tab("\x00", "", 1, 1)}},
		{"the last names left out", []api.Tablet{tab("", "\xff", 1, 1)}},
		{"the last names of two left out", []api.Tablet{tab("", "m", 1, 1), tab("m", "z", 1, 1)}},
		{"the first name of two left out", []api.Tablet{tab("\x00", "m", 1, 1), tab("m", "", 1, 1)}},
		{"a name between left out", []api.Tablet{tab("", "m", 1, 1), tab("m\x00", "", 1, 1)}},
		{"both ends alone", []api.Tablet{tab("", "a", 1, 1), tab("z", "", 1, 1)}},
		{"one name twice", []api.Tablet{tab("", "m\x00", 1, 1), tab("m", "", 1, 1)}},
		{"all names twice", []api.Tablet{tab("", "", 1, 1), tab("", "", 1, 1)}},
		{"the upper names twice", []api.Tablet{tab("", "", 1, 1), tab("m", "", 1, 1)}},
		{"the lower names twice", []api.Tablet{tab("", "m", 1, 1), tab("", "", 1, 1)}},
		{"one twice", []api.Tablet{tab("", "m", 1, 1), tab("", "m", 1, 1), tab("m", "", 1, 1)}},
		{"the last one twice", []api.Tablet{tab("", "m", 1, 1), tab("m", "", 1, 1), tab("m", "", 1, 1)}},
		{"one of no names", []api.Tablet{tab("", "m", 1, 1), tab("m", "m", 1, 1), tab("m", "", 1, 1)}},
		{"there and back", []api.Tablet{tab("", "m", 1, 1), tab("m", "c", 1, 1), tab("c", "", 1, 1)}},
		{"not Right alone", []api.Tablet{tab("b", "a", 1, 1)}},
		{"cut at a name that is too long", cut(tooLong)},
		{"cut at a name that is too long, and others", cut("a", tooLong, "t")},
		{"a huge cut", cut(strings.Repeat("m", 1<<20))},
	} {
		wantRefused(t, x.what, api.ErrArg, x.l...)
	}
	wantTable(t, "P11.1: New, cut at a name of MaxName bytes", made(t, cut(longest)...), cut(longest))
}

// TestNewInOtherOrders: span.Cover asks for the tablets in order, and so does New.
func TestNewInOtherOrders(t *testing.T) {
	wantRefused(t, "two turned round", api.ErrArg, tab("m", "", 1, 1), tab("", "m", 1, 1))
	for n := 2; n <= maxTablets; n++ {
		l := into(n)
		slices.Reverse(l)
		wantRefused(t, "turned round", api.ErrArg, l...)
		for i := range n - 1 {
			l := into(n)
			l[i], l[i+1] = l[i+1], l[i]
			wantRefused(t, "two of them turned round", api.ErrArg, l...)
		}
	}
}

// TestNewCoversAll: one of many is left out, or is not just where the next begins.
func TestNewCoversAll(t *testing.T) {
	for n := 2; n <= maxTablets+1; n++ {
		for i := range n {
			wantRefused(t, "one left out", api.ErrArg, slices.Delete(into(n), i, i+1)...)
			l := into(n)
			l[i].Span.Hi += "\x01"
			wantRefused(t, "a Hi behind the next Lo", api.ErrArg, l...)
			l = into(n)
			l[i].Span.Lo += "\x01"
			wantRefused(t, "a Lo behind the Hi ahead of it", api.ErrArg, l...)
		}
	}
}

// spot is a Group and a Gen, and whether a tablet may have them.
type spot struct {
	group, gen int
	right      bool
}

func spots() []spot {
	return []spot{
		{0, 1, true}, {1, 1, true}, {maxGroup, 1, true}, {0, maxGen, true}, {maxGroup, maxGen, true}, {7, maxGen - 1, true}, {maxGroup - 1, 2, true},
		{-1, 1, false}, {maxGroup + 1, 1, false}, {math.MaxInt, 1, false}, {math.MinInt, 1, false}, {-256, 1, false}, {256 * 256, 1, false},
		{1, 0, false}, {1, -1, false}, {1, maxGen + 1, false}, {1, math.MaxInt, false}, {1, math.MinInt, false}, {1, 1 << 31, false}, {1, 1<<32 + 1, false},
		{0, 0, false}, {-1, 0, false}, {maxGroup + 1, maxGen + 1, false}, {maxGroup, 0, false}, {-1, maxGen, false},
	}
}

func TestNewByGroupsAndGens(t *testing.T) {
	for _, x := range spots() {
		for _, n := range []int{1, 2, 5, maxTablets} {
			for i := range n {
				l := into(n)
				l[i].Group, l[i].Gen = x.group, x.gen
				if !x.right {
					wantRefused(t, "a Group or Gen that is none", api.ErrArg, l...)
					continue
				}
				wantTable(t, "P11.1: New", made(t, l...), l)
			}
		}
	}
	same := []api.Tablet{tab("", "m", 3, 9), tab("m", "", 3, 9)}
	wantTable(t, "P11.1: New of one Group and Gen twice", made(t, same...), same)
	falling := []api.Tablet{tab("", "m", 3, 9), tab("m", "", 2, 8)}
	wantTable(t, "P11.1: New of falling Groups and Gens", made(t, falling...), falling)
}

// many are n tablets of all names, also far more than may be there.
func many(n int) []api.Tablet {
	var at []string
	for i := range n - 1 {
		at = append(at, fmt.Sprintf("%07d", i))
	}
	l := cut(at...)
	for i := range l {
		l[i].Group, l[i].Gen = i%4, 1+i
	}
	return l
}

// TestNewOfTooMany: ErrFull, but behind each ErrArg.
func TestNewOfTooMany(t *testing.T) {
	wantTable(t, "P11.1: New of MaxTablets", made(t, many(maxTablets)...), many(maxTablets))
	for _, n := range []int{maxTablets + 1, maxTablets + 2, 2 * maxTablets, 100, 100000} {
		if m, why := meta.New(many(n)...); m != nil || why != api.ErrFull {
			t.Errorf("P11.1: New of %d: %v, a table: %v", n, why, m != nil)
		}
	}
	for _, i := range []int{0, 1, 7, maxTablets - 1, maxTablets} {
		for _, x := range spots() {
			if x.right {
				continue
			}
			l := many(maxTablets + 1)
			l[i].Group, l[i].Gen = x.group, x.gen
			wantRefused(t, "too many, and a Group or Gen that is none", api.ErrArg, l...)
		}
		wantRefused(t, "too many, and one left out", api.ErrArg, slices.Delete(many(maxTablets+2), i, i+1)...)
		l := many(maxTablets + 1)
		l[i].Span.Hi = tooLong
		wantRefused(t, "too many, and a Hi that is too long", api.ErrArg, l...)
	}
	wantRefused(t, "too many, and all names once more", api.ErrArg, append(many(maxTablets+1), tab("", "", 1, 1))...)
}

// TestFind: plain cases, written out.
func TestFind(t *testing.T) {
	l := []api.Tablet{tab("", "b", 1, 5), tab("b", "m", 2, 6), tab("m", "", 3, 4)}
	m := made(t, l...)
	for _, x := range []struct {
		name string
		at   int
	}{
		{"", 0}, {"\x00", 0}, {"a", 0}, {"a\xff\xff", 0}, {"B", 0},
		{"b", 1}, {"b\x00", 1}, {"c", 1}, {"l\xff", 1}, {"lzzzzzzzzzzzzzzz", 1},
		{"m", 2}, {"m\x00", 2}, {"z", 2}, {"\x80", 2}, {tooLong, 2}, {strings.Repeat("\xff", 16), 2},
	} {
		if got := m.Find(x.name); got != l[x.at] {
			t.Errorf("P11.1: Find(%q): %s, want %s", x.name, show([]api.Tablet{got}), show(l[x.at:x.at+1]))
		}
		got, ok := m.Before(x.name)
		switch {
		case x.at == 0 && (ok || got != api.Tablet{}):
			t.Errorf("P11.1: Before(%q), in the first: %s, %v", x.name, show([]api.Tablet{got}), ok)
		case x.at > 0 && (!ok || got != l[x.at-1]):
			t.Errorf("P11.1: Before(%q): %s, %v, want %s", x.name, show([]api.Tablet{got}), ok, show(l[x.at-1:x.at]))
		}
	}
}

// TestFindOfOne: a tablet of all names has each, and none is ahead of it.
func TestFindOfOne(t *testing.T) {
	m := made(t, tab("", "", 255, 1<<30))
	for _, name := range append(namesAround(into(maxTablets)), tooLong) {
		if got := m.Find(name); got != tab("", "", 255, 1<<30) {
			t.Errorf("P11.1: Find(%.20q) of one: %s", name, show([]api.Tablet{got}))
		}
		if got, ok := m.Before(name); ok || got != (api.Tablet{}) {
			t.Errorf("P11.1: Before(%.20q) of one: %s, %v", name, show([]api.Tablet{got}), ok)
		}
	}
}

// TestAskingChangesNothing: the calls that tell leave the table alone.
func TestAskingChangesNothing(t *testing.T) {
	for n := 1; n <= maxTablets; n++ {
		m := made(t, into(n)...)
		for range 2 {
			wantTable(t, "P11.1: asked once more", m, into(n))
			m.Copy()
			write(m)
			meta.Same(m, m)
		}
	}
}
