package span_test

import (
	"slices"
	"testing"

	"wardmote/api"
	"wardmote/span"
)

// cut is all names, parted at these.
func cut(at ...string) []api.Span {
	var l []api.Span
	lo := ""
	for _, hi := range append(slices.Clone(at), "") {
		l = append(l, of(lo, hi))
		lo = hi
	}
	return l
}

func wantLists(t *testing.T, what string, l []api.Span, cover, apart bool) {
	t.Helper()
	if got := span.Cover(l...); got != cover {
		t.Errorf("P7.2: Cover of %s, %s: %v", show(l...), what, got)
	}
	if got := span.Apart(l...); got != apart {
		t.Errorf("P7.2: Apart of %s, %s: %v", show(l...), what, got)
	}
}

func TestCoverAndApart(t *testing.T) {
	for _, c := range []struct {
		what         string
		l            []api.Span
		cover, apart bool
	}{
		{"none", nil, false, true},
		{"an empty list", []api.Span{}, false, true},
		{"one that has all", cut(), true, true},
		{"two", cut("m"), true, true},
		{"three", cut("b", "m"), true, true},
		{"the lowest names", cut("\x00", "\x00\x00"), true, true},
		{"names of MaxName bytes", cut(longest[:15], longest), true, true},
		{"many", cut("\x00", "A", "Z", "a", "b", "c", "d", "e", "f", "g", "h", "i", "j", "\x7f", "\x80", "\xff"), true, true},
		{"a gap in the midst", []api.Span{of("", "b"), of("c", "")}, false, true},
		{"a gap of one text", []api.Span{of("", "b"), of("b\x00", "")}, false, true},
		{"a gap behind the second", []api.Span{of("", "b"), of("b", "c"), of("d", "")}, false, true},
		{"overlapping", []api.Span{of("", "c"), of("b", "")}, false, false},
		{"overlapping by one text", []api.Span{of("", "b\x00"), of("b", "")}, false, false},
		{"turned round", []api.Span{of("m", ""), of("", "m")}, false, true},
		{"turned round, three", []api.Span{of("m", ""), of("b", "m"), of("", "b")}, false, true},
		{"turned round behind the first", []api.Span{of("", "b"), of("m", ""), of("b", "m")}, false, true},
		{"a first Lo that is not empty", []api.Span{of("a", "m"), of("m", "")}, false, true},
		{"one, a Lo that is not empty", []api.Span{of("m", "")}, false, true},
		{"the lowest Lo", []api.Span{of("\x00", "")}, false, true},
		{"a last Hi that is not empty", []api.Span{of("", "m"), of("m", "z")}, false, true},
		{"one, a Hi that is not empty", []api.Span{of("", "m")}, false, true},
		{"neither end", []api.Span{of("a", "m")}, false, true},
		{"an empty Hi in the midst", []api.Span{of("", "b"), of("b", ""), of("c", "")}, false, false},
		{"an empty Hi in the midst, and an empty Lo", []api.Span{of("", ""), of("", "")}, false, false},
		{"all names, twice", append(cut("m"), cut("m")...), false, false},
		{"all, and the empty name's", []api.Span{of("", ""), of("", "a")}, false, false},
		{"the empty name's, and all", []api.Span{of("", "a"), of("", "")}, false, false},
		{"the same one twice", []api.Span{of("a", "b"), of("a", "b")}, false, false},
		{"touching", []api.Span{of("a", "b"), of("b", "c"), of("c", "d")}, false, true},
		{"touching, in no order", []api.Span{of("b", "c"), of("c", "d"), of("a", "b")}, false, true},
		{"far from one another", []api.Span{of("x", "y"), of("a", "b"), of("m", "n")}, false, true},
		{"two that meet with one between them", []api.Span{of("a", "c"), of("x", "y"), of("b", "d")}, false, false},
		{"two that meet with many between them", []api.Span{of("d", "f"), of("x", "y"), of("a", "b"), of("u", "w"), of("g", "h"), of("e", "g")}, false, false},
		{"the last has all others", []api.Span{of("b", "c"), of("e", "f"), of("a", "")}, false, false},
		{"the first has all others", []api.Span{of("a", ""), of("b", "c"), of("e", "f")}, false, false},
		{"the first and the last from the empty name on", []api.Span{of("", "a"), of("b", "c"), of("", "\x00")}, false, false},
	} {
		wantLists(t, c.what, c.l, c.cover, c.apart)
	}
}

// TestListsOfWrongOnes: one that is not Right, by itself and at each place of a list that would be right without it.
func TestListsOfWrongOnes(t *testing.T) {
	for _, bad := range wrongSpans() {
		wantLists(t, "one that is not Right", []api.Span{bad}, false, false)
		wantLists(t, "two that are not Right", []api.Span{bad, bad}, false, false)
		for _, l := range [][]api.Span{cut(), cut("m"), cut("b", "m"), {of("a", "b"), of("x", "y")}} {
			for i := range l {
				one := slices.Clone(l)
				one[i] = bad
				wantLists(t, "not Right in the place of another", one, false, false)
				wantLists(t, "not Right among others", slices.Insert(slices.Clone(l), i, bad), false, false)
			}
			wantLists(t, "not Right behind others", append(slices.Clone(l), bad), false, false)
		}
	}
	// Each of these touches the next one; what is wrong is one of them alone.
	for _, l := range [][]api.Span{
		{of("", "b"), of("b", "b"), of("b", "")},
		{of("", "b"), of("b", "a"), of("a", "")},
		{of("", tooLong), of(tooLong, "")},
		{of("", "m"), of("m", tooLong), of(tooLong, "")},
		{of("", huge()), of(huge(), "")},
	} {
		wantLists(t, "not Right, and touching", l, false, false)
	}
}

// TestListsOfParts: what covers all names covers no more of them with one left out, doubled, or in another place.
func TestListsOfParts(t *testing.T) {
	whole := cut("\x00", "a", "a\x00", "b", longest, "t", "\x80", "\xff")
	wantLists(t, "all", whole, true, true)
	for i := range whole {
		wantLists(t, "one left out", slices.Delete(slices.Clone(whole), i, i+1), false, true)
		wantLists(t, "one doubled", slices.Insert(slices.Clone(whole), i, whole[i]), false, false)
		for k := range whole {
			l := slices.Clone(whole)
			l[i], l[k] = l[k], l[i]
			wantLists(t, "two turned round", l, i == k, true)
		}
		if i > 0 {
			l := slices.Clone(whole)
			l[i-1].Hi += "\x00"
			wantLists(t, "one that goes on into the next", l, false, false)
		}
	}
}

// TestListsChangeNothing: neither the list nor its room is read beyond its length, or changed.
func TestListsChangeNothing(t *testing.T) {
	for _, l := range [][]api.Span{cut(), cut("m"), {of("m", ""), of("", "m")}, {of("x", "y"), of("a", "b"), of("m", "n")}, {of("b", "d"), of("x", "y"), of("a", "c")}, wrongSpans()[:8]} {
		for _, room := range []api.Span{of("", ""), of("b", "a"), of("m", "")} {
			all := append(slices.Clone(l), room, room)
			before := slices.Clone(all)
			given := all[:len(l)]
			if span.Cover(given...) != span.Cover(l...) || span.Apart(given...) != span.Apart(l...) {
				t.Errorf("R5: the room behind %s is read", show(l...))
			}
			if !slices.Equal(all, before) {
				t.Errorf("R2: %s, with its room, is changed: %s", show(before...), show(all...))
			}
		}
	}
}
