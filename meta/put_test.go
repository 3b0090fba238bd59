package meta_test

import (
	"fmt"
	"slices"
	"strings"
	"testing"

	"wardmote/api"
	"wardmote/meta"
)

// wantPut asks for this answer of Put, and for no change beside a refusal.
func wantPut(t *testing.T, what string, m *meta.Table, want api.Errno, l ...api.Tablet) {
	t.Helper()
	was, bytes := m.All(), write(m)
	if why := m.Put(l...); why != want {
		t.Errorf("P11.1: Put of %s in %s, %s: %v, want %v", show(l), show(was), what, why, want)
	}
	if want != api.OK {
		wantTable(t, "R3: behind a Put that was refused, "+what, m, was)
		wantBytes(t, "R3: behind a Put that was refused, "+what, write(m), bytes)
	}
}

// three is what most of the following begin with.
func three() []api.Tablet {
	return []api.Tablet{tab("", "g", 1, 5), tab("g", "p", 2, 6), tab("p", "", 3, 4)}
}

func TestPut(t *testing.T) {
	l := three()
	for _, x := range []struct {
		what string
		put  []api.Tablet
		then []api.Tablet
	}{
		{"in the place of the first", []api.Tablet{tab("", "g", 9, 9)}, []api.Tablet{tab("", "g", 9, 9), l[1], l[2]}},
		{"in the place of the second", []api.Tablet{tab("g", "p", 9, 9)}, []api.Tablet{l[0], tab("g", "p", 9, 9), l[2]}},
		{"in the place of the last", []api.Tablet{tab("p", "", 9, 9)}, []api.Tablet{l[0], l[1], tab("p", "", 9, 9)}},
		{"in the place of the first two", []api.Tablet{tab("", "p", 9, 9)}, []api.Tablet{tab("", "p", 9, 9), l[2]}},
		{"in the place of the last two", []api.Tablet{tab("g", "", 9, 9)}, []api.Tablet{l[0], tab("g", "", 9, 9)}},
		{"in the place of all", []api.Tablet{tab("", "", 9, 9)}, []api.Tablet{tab("", "", 9, 9)}},
		{"two in the place of the first", []api.Tablet{tab("", "c", 8, 8), tab("c", "g", 9, 9)}, []api.Tablet{tab("", "c", 8, 8), tab("c", "g", 9, 9), l[1], l[2]}},
		{"two in the place of the second", []api.Tablet{tab("g", "h", 8, 8), tab("h", "p", 9, 9)}, []api.Tablet{l[0], tab("g", "h", 8, 8), tab("h", "p", 9, 9), l[2]}},
		{"two in the place of the last", []api.Tablet{tab("p", "z", 8, 8), tab("z", "", 9, 9)}, []api.Tablet{l[0], l[1], tab("p", "z", 8, 8), tab("z", "", 9, 9)}},
		{"three in the place of two, cut elsewhere", []api.Tablet{tab("g", "k", 7, 7), tab("k", "q", 8, 8), tab("q", "", 9, 9)}, []api.Tablet{l[0], tab("g", "k", 7, 7), tab("k", "q", 8, 8), tab("q", "", 9, 9)}},
		{"two in the place of all, cut elsewhere", []api.Tablet{tab("", "k", 7, 7), tab("k", "", 8, 8)}, []api.Tablet{tab("", "k", 7, 7), tab("k", "", 8, 8)}},
		{"two in the place of two, cut at the same name", []api.Tablet{tab("", "g", 7, 7), tab("g", "p", 8, 8)}, []api.Tablet{tab("", "g", 7, 7), tab("g", "p", 8, 8), l[2]}},
		{"the same one", []api.Tablet{l[1]}, l},
		{"all the same", l, l},
		{"a lower Gen and Group", []api.Tablet{tab("g", "p", 0, 1)}, []api.Tablet{l[0], tab("g", "p", 0, 1), l[2]}},
		{"cut at a name of MaxName bytes", []api.Tablet{tab("p", longest, 1, 7), tab(longest, "", 1, 8)}, []api.Tablet{l[0], l[1], tab("p", longest, 1, 7), tab(longest, "", 1, 8)}},
		{"cut into single names", []api.Tablet{tab("g", "g\x00", 1, 7), tab("g\x00", "g\x00\x00", 1, 7), tab("g\x00\x00", "p", 1, 8)}, []api.Tablet{l[0], tab("g", "g\x00", 1, 7), tab("g\x00", "g\x00\x00", 1, 7), tab("g\x00\x00", "p", 1, 8), l[2]}},
	} {
		m := made(t, l...)
		wantPut(t, x.what, m, api.OK, x.put...)
		wantTable(t, "P11.1: Put, "+x.what, m, x.then)
		wantPut(t, x.what+", once more", m, api.OK, x.put...)
		wantTable(t, "P11.1: Put once more, "+x.what, m, x.then)
	}
}

func TestPutRefuses(t *testing.T) {
	for _, x := range []struct {
		what string
		put  []api.Tablet
	}{
		{"none", nil},
		{"an empty list", []api.Tablet{}},
		{"an empty list with room", into(1)[:0]},
		{"the lower part of the first", []api.Tablet{tab("", "c", 9, 9)}},
		{"the upper part of the first", []api.Tablet{tab("c", "g", 9, 9)}},
		{"a part within the first", []api.Tablet{tab("c", "d", 9, 9)}},
		{"the lower part of the last", []api.Tablet{tab("p", "z", 9, 9)}},
		{"the upper part of the last", []api.Tablet{tab("z", "", 9, 9)}},
		{"a part within the last", []api.Tablet{tab("q", "z", 9, 9)}},
		{"one and the lower part of the next", []api.Tablet{tab("", "h", 9, 9)}},
		{"one and the upper part of that ahead of it", []api.Tablet{tab("f", "p", 9, 9)}},
		{"parts of two", []api.Tablet{tab("f", "h", 9, 9)}},
		{"parts of all", []api.Tablet{tab("c", "z", 9, 9)}},
		{"all but the empty name", []api.Tablet{tab("\x00", "", 9, 9)}},
		{"all but the last names", []api.Tablet{tab("", strings.Repeat("\xff", 16), 9, 9)}},
		{"two parts of one", []api.Tablet{tab("g", "h", 9, 9), tab("h", "i", 9, 9)}},
		{"two parts of one, the upper ones", []api.Tablet{tab("h", "i", 9, 9), tab("i", "p", 9, 9)}},
		{"a next Lo behind the Hi ahead of it", []api.Tablet{tab("g", "h", 9, 9), tab("i", "p", 9, 9)}},
		{"a next Lo ahead of the Hi ahead of it", []api.Tablet{tab("g", "i", 9, 9), tab("h", "p", 9, 9)}},
		{"a next Lo just behind the Hi ahead of it", []api.Tablet{tab("g", "i", 9, 9), tab("i\x00", "p", 9, 9)}},
		{"the first and the last, each in its place", []api.Tablet{tab("", "g", 9, 9), tab("p", "", 9, 9)}},
		{"two turned round", []api.Tablet{tab("g", "p", 9, 9), tab("", "g", 9, 9)}},
		{"the last and the first: an empty Hi and an empty Lo", []api.Tablet{tab("p", "", 9, 9), tab("", "g", 9, 9)}},
		{"all turned round: an empty Hi and an empty Lo", []api.Tablet{tab("g", "", 9, 9), tab("", "g", 9, 9)}},
		{"an empty Hi ahead of another", []api.Tablet{tab("g", "", 9, 9), tab("p", "", 9, 9)}},
		{"all names twice", []api.Tablet{tab("", "", 9, 9), tab("", "", 9, 9)}},
		{"one twice", []api.Tablet{tab("g", "p", 9, 9), tab("g", "p", 9, 9)}},
		{"three, the third turned round", []api.Tablet{tab("", "g", 9, 9), tab("g", "p", 9, 9), tab("", "g", 9, 9)}},
		{"three, the last Lo is no Hi", []api.Tablet{tab("", "g", 9, 9), tab("g", "p", 9, 9), tab("q", "", 9, 9)}},
		{"not Right: of no name, at a Lo", []api.Tablet{tab("g", "g", 9, 9)}},
		{"not Right: of no name, within one", []api.Tablet{tab("h", "h", 9, 9)}},
		{"not Right: Hi below Lo", []api.Tablet{tab("p", "g", 9, 9)}},
		{"not Right: Hi below Lo, within one", []api.Tablet{tab("z", "y", 9, 9)}},
		{"not Right: there and back", []api.Tablet{tab("g", "p", 9, 9), tab("p", "g", 9, 9)}},
		{"not Right: there, back and there", []api.Tablet{tab("g", "p", 9, 9), tab("p", "g", 9, 9), tab("g", "p", 9, 9)}},
		{"not Right: one of no name between", []api.Tablet{tab("g", "h", 9, 9), tab("h", "h", 9, 9), tab("h", "p", 9, 9)}},
		{"not Right: cut at a name that is too long", []api.Tablet{tab("p", tooLong, 9, 9), tab(tooLong, "", 9, 9)}},
		{"not Right: a Lo that is too long", []api.Tablet{tab(tooLong, "", 9, 9)}},
		{"not Right: a Hi that is too long", []api.Tablet{tab("", tooLong, 9, 9)}},
	} {
		wantPut(t, x.what, made(t, three()...), api.ErrArg, x.put...)
		wantPut(t, x.what+", in one", made(t, into(1)...), api.ErrArg, x.put...)
	}
}

func TestPutByGroupsAndGens(t *testing.T) {
	for _, x := range spots() {
		for i := range 3 {
			l := []api.Tablet{tab("g", "h", 1, 1), tab("h", "k", 1, 1), tab("k", "p", 1, 1)}
			l[i].Group, l[i].Gen = x.group, x.gen
			m := made(t, three()...)
			if !x.right {
				wantPut(t, "a Group or Gen that is none", m, api.ErrArg, l...)
				continue
			}
			wantPut(t, "a Group and Gen that may be", m, api.OK, l...)
			wantTable(t, "P11.1: Put", m, slices.Concat(three()[:1], l, three()[2:]))
		}
	}
}

// TestPutUpToMaxTablets: each number of tablets in the place of one, in tables of each number.
func TestPutUpToMaxTablets(t *testing.T) {
	for n := 1; n <= maxTablets; n++ {
		for parts := 1; parts <= maxTablets+2; parts++ {
			l := many(n)
			own := l[n/2]
			var put []api.Tablet
			for i, lo := 0, own.Span.Lo; i < parts; i++ {
				hi := fmt.Sprintf("%s/%02d", own.Span.Lo, i)
				if i == parts-1 {
					hi = own.Span.Hi
				}
				put = append(put, tab(lo, hi, 3, 99))
				lo = hi
			}
			m := made(t, l...)
			if n-1+parts > maxTablets {
				wantPut(t, fmt.Sprint(parts, " in the place of one of ", n), m, api.ErrFull, put...)
				continue
			}
			wantPut(t, fmt.Sprint(parts, " in the place of one of ", n), m, api.OK, put...)
			wantTable(t, "P11.1: Put", m, slices.Concat(l[:n/2], put, l[n/2+1:]))
		}
	}
}

// TestPutOfTooMany: ErrFull, but behind each ErrArg; and what is full takes as many in the place of as many.
func TestPutOfTooMany(t *testing.T) {
	full := into(maxTablets)
	last := full[maxTablets-1]
	m := made(t, full...)
	lo, hi := last.Span.Lo, "\xff\xff\xff"
	wantPut(t, "one too many", m, api.ErrFull, tab(lo, hi, 1, 9), tab(hi, "", 1, 9))
	wantPut(t, "far too many", m, api.ErrFull, many(100000)...)
	wantPut(t, "one too many, a Group that is none", m, api.ErrArg, tab(lo, hi, 256, 9), tab(hi, "", 1, 9))
	wantPut(t, "one too many, a Group that is none, behind", m, api.ErrArg, tab(lo, hi, 1, 9), tab(hi, "", -1, 9))
	wantPut(t, "one too many, a Gen that is none", m, api.ErrArg, tab(lo, hi, 1, 0), tab(hi, "", 1, 9))
	wantPut(t, "one too many, a Gen that is none, behind", m, api.ErrArg, tab(lo, hi, 1, 9), tab(hi, "", 1, maxGen+1))
	wantPut(t, "one too many, and not all names", m, api.ErrArg, tab(lo, hi, 1, 9), tab(hi, hi+"z", 1, 9))
	wantPut(t, "one too many, and not in a row", m, api.ErrArg, tab(lo, hi, 1, 9), tab(hi+"z", "", 1, 9))
	wantPut(t, "one more, not Right", m, api.ErrArg, tab("z", "y", 1, 9))
	wantPut(t, "one in the place of one", m, api.OK, tab(lo, "", 1, 9))
	wantTable(t, "P11.1: Put in a full table", m, append(slices.Clone(full[:maxTablets-1]), tab(lo, "", 1, 9)))
	wantPut(t, "all in the place of all", m, api.OK, many(maxTablets)...)
	wantTable(t, "P11.1: Put in a full table", m, many(maxTablets))
	wantPut(t, "one in the place of all", m, api.OK, tab("", "", 1, 9))
	wantTable(t, "P11.1: Put in a full table", m, []api.Tablet{tab("", "", 1, 9)})
}

// TestPutOfEachRow: all rows of tablets, from each place to each, become one, two, and as many of other Groups.
func TestPutOfEachRow(t *testing.T) {
	l := many(maxTablets - 1)
	for from := range l {
		for to := from + 1; to <= len(l); to++ {
			lo, hi := l[from].Span.Lo, l[to-1].Span.Hi
			at := lo + "\x00"
			if from+1 < to {
				at = l[from].Span.Hi
			}
			others := slices.Clone(l[from:to])
			for i := range others {
				others[i].Group = 200
			}
			puts := [][]api.Tablet{{tab(lo, hi, 3, 3)}, others}
			if at != hi {
				puts = append(puts, []api.Tablet{tab(lo, at, 3, 3), tab(at, hi, 4, 4)})
			}
			for _, put := range puts {
				m := made(t, l...)
				wantPut(t, "in the place of a row", m, api.OK, put...)
				wantTable(t, "P11.1: Put in the place of a row", m, slices.Concat(l[:from], put, l[to:]))
			}
		}
	}
}
