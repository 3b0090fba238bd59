package span_test

import (
	"fmt"
	"strings"
	"testing"

	"wardmote/api"
	"wardmote/span"
)

const (
	longest = "sixteen.bytes.lo"
	tooLong = "seventeen.bytes.l"
)

func of(lo, hi string) api.Span { return api.Span{Lo: lo, Hi: hi} }

// huge is longer than any Text may be.
func huge() string { return strings.Repeat("h", api.MaxBytes+1) }

func show(l ...api.Span) string {
	s := ""
	for _, x := range l {
		s += fmt.Sprintf("{%.20q %.20q}", x.Lo, x.Hi)
	}
	return s
}

// rightSpans are some of each kind: of both ends, of one, of none, of the longest, of odd bytes.
func rightSpans() []api.Span {
	return []api.Span{
		of("", ""), of("", "a"), of("a", ""), of("a", "b"), of("a", "a\x00"), of("a", "aa"), of("ab", "b"),
		of("", "\x00"), of("\x00", ""), of("\x00", "\x00\x00"), of("\x7f", "\x80"), of("Z", "a"), of("\xfe", "\xff"), of("\xff", ""),
		of(longest, ""), of("", longest), of(longest, "t"), of("a", longest), of(longest[:15], longest),
		of(strings.Repeat("\x00", 16), strings.Repeat("\xff", 16)), of("\u00e9", "\u4e16"),
	}
}

// wrongSpans are those that are not Right, each for one cause or for several.
func wrongSpans() []api.Span {
	return []api.Span{
		of("a", "a"), of("b", "a"), of("a\x00", "a"), of("ab", "aa"), of("b", "ab"), of("\x80", "\x7f"), of("a", "Z"), of("\x00", "\x00"), of(longest, longest), of(longest, longest[:15]),
		of(tooLong, ""), of("", tooLong), of("a", tooLong), of(tooLong, "z"), of(tooLong, tooLong), of(tooLong, "a"), of("z", tooLong), of(longest[:8], tooLong),
		of(huge(), ""), of("", huge()), of("a", huge()), of(huge(), "z"), of(huge(), huge()),
	}
}

func TestLengths(t *testing.T) {
	if len(longest) != api.MaxName || len(tooLong) != api.MaxName+1 {
		t.Fatalf("the test's own names: %d, %d", len(longest), len(tooLong))
	}
}

func TestRight(t *testing.T) {
	for _, s := range rightSpans() {
		if !span.Right(s) {
			t.Errorf("P7.1: Right of %s: false", show(s))
		}
	}
	for _, s := range wrongSpans() {
		if span.Right(s) {
			t.Errorf("P7.1: Right of %s: true", show(s))
		}
	}
}

// TestRightOfEachLength: each end by itself, with the other one empty, above and below.
func TestRightOfEachLength(t *testing.T) {
	for n := range 40 {
		want := n <= 16
		m := strings.Repeat("m", n)
		if got := span.Right(of(m, "")); got != want {
			t.Errorf("P7.1: Right with a Lo of %d bytes: %v", n, got)
		}
		if got := span.Right(of(m, "n")); got != want {
			t.Errorf("P7.1: Right with a Lo of %d bytes below Hi: %v", n, got)
		}
		if got := span.Right(of("", m)); got != want {
			t.Errorf("P7.1: Right with a Hi of %d bytes: %v", n, got)
		}
		if got := span.Right(of("l", m)); got != want {
			t.Errorf("P7.1: Right with a Hi of %d bytes above Lo: %v", n, got)
		}
		if got := span.Right(of("n", m)); got != (n == 0) {
			t.Errorf("P7.1: Right with a Hi of %d bytes below Lo: %v", n, got)
		}
	}
}

func TestHas(t *testing.T) {
	for _, c := range []struct {
		what string
		s    api.Span
		name string
		want bool
	}{
		{"ahead of it", of("b", "d"), "a", false},
		{"just ahead of it", of("b", "d"), "a\xff\xff", false},
		{"a beginning of Lo", of("bb", "d"), "b", false},
		{"at Lo", of("b", "d"), "b", true},
		{"just behind Lo", of("b", "d"), "b\x00", true},
		{"between", of("b", "d"), "c", true},
		{"just ahead of Hi", of("b", "d"), "c\xff\xff", true},
		{"at Hi", of("b", "d"), "d", false},
		{"just behind Hi", of("b", "d"), "d\x00", false},
		{"behind it", of("b", "d"), "e", false},
		{"by bytes, behind it", of("b", "d"), "\x80", false},
		{"by bytes, ahead of it", of("b", "d"), "C", false},
		{"the empty name", of("b", "d"), "", false},
		{"the empty name, an empty Lo", of("", "b"), "", true},
		{"the empty name, the lowest Hi", of("", "\x00"), "", true},
		{"the lowest Hi", of("", "\x00"), "\x00", false},
		{"the empty name, the lowest Lo", of("\x00", ""), "", false},
		{"all, the empty name", of("", ""), "", true},
		{"all, a name", of("", ""), "m", true},
		{"all, the highest bytes", of("", ""), strings.Repeat("\xff", 16), true},
		{"an empty Hi, ahead of it", of("b", ""), "a", false},
		{"an empty Hi, the empty name", of("b", ""), "", false},
		{"an empty Hi, at Lo", of("b", ""), "b", true},
		{"an empty Hi, behind", of("b", ""), "zz", true},
		{"one text alone", of("b", "b\x00"), "b", true},
		{"one text alone, behind it", of("b", "b\x00"), "b\x00", false},
		{"the longest, at Lo", of(longest, ""), longest, true},
		{"the longest, at Hi", of("", longest), longest, false},
		{"a name that is too long", of("b", "z"), tooLong, true},
		{"a name that is too long, behind it", of("b", "s"), tooLong, false},
		{"a huge name", of("b", ""), huge(), true},
		{"not Right, Hi at Lo", of("b", "b"), "b", false},
		{"not Right, Hi below Lo, between", of("d", "b"), "c", false},
		{"not Right, Hi below Lo, at Lo", of("d", "b"), "d", false},
		{"not Right, Hi below Lo, at Hi", of("d", "b"), "b", false},
		{"not Right, a Lo that is too long", of(tooLong, ""), "t", true},
		{"not Right, a Hi that is too long", of("", tooLong), "a", true},
		{"not Right, a Hi that is too long, at it", of("", tooLong), tooLong, false},
	} {
		if got := span.Has(c.s, c.name); got != c.want {
			t.Errorf("P7.1: Has of %s, %.20q: %s: %v", show(c.s), c.name, c.what, got)
		}
	}
}

func wantMeet(t *testing.T, what string, a, b api.Span, want bool) {
	t.Helper()
	if span.Meet(a, b) != want || span.Meet(b, a) != want {
		t.Errorf("P7.1: Meet of %s, %s: %v, turned round: %v", show(a, b), what, span.Meet(a, b), span.Meet(b, a))
	}
}

func TestMeet(t *testing.T) {
	for _, c := range []struct {
		what string
		a, b api.Span
		want bool
	}{
		{"touching", of("a", "b"), of("b", "c"), false},
		{"touching, of all names", of("", "b"), of("b", ""), false},
		{"touching at the longest", of("", longest), of(longest, ""), false},
		{"far from one another", of("a", "b"), of("c", "d"), false},
		{"far from one another, the second without a Hi", of("a", "b"), of("c", ""), false},
		{"far from one another, the first from the empty name on", of("", "b"), of("c", "d"), false},
		{"one text between", of("a", "b"), of("b\x00", "c"), false},
		{"overlapping", of("a", "c"), of("b", "d"), true},
		{"overlapping, of all names", of("", "c"), of("b", ""), true},
		{"within", of("a", "z"), of("c", "d"), true},
		{"within, from one Lo", of("a", "z"), of("a", "d"), true},
		{"within, to one Hi", of("a", "z"), of("c", "z"), true},
		{"within all", of("", ""), of("c", "d"), true},
		{"within one without a Hi", of("a", ""), of("c", "d"), true},
		{"both without a Hi", of("a", ""), of("b", ""), true},
		{"both from the empty name on", of("", "a"), of("", "b"), true},
		{"the empty name alone", of("", "\x00"), of("", "m"), true},
		{"the empty name alone, and all", of("", "\x00"), of("", ""), true},
		{"the empty name alone, and the rest", of("", "\x00"), of("\x00", ""), false},
		{"one text in common", of("a", "b\x00"), of("b", "c"), true},
		{"one text in common, the longest", of("a", longest), of(longest[:15]+"n", "z"), true},
		{"one text alone, within", of("b", "b\x00"), of("a", "c"), true},
		{"one text alone, at Hi", of("b", "b\x00"), of("a", "b"), false},
		{"one text alone, behind Lo", of("b", "b\x00"), of("b\x00", "c"), false},
		{"by bytes", of("\x7f", "\x80"), of("\x80", "\x81"), false},
		{"by bytes, overlapping", of("\x7f", "\x81"), of("\x80", "\x82"), true},
	} {
		wantMeet(t, c.what, c.a, c.b, c.want)
	}
	for _, s := range rightSpans() {
		wantMeet(t, "the same one twice", s, s, true)
		wantMeet(t, "one and all", s, of("", ""), true)
	}
}

func TestMeetOfWrongOnes(t *testing.T) {
	for _, bad := range wrongSpans() {
		wantMeet(t, "one that is not Right, with itself", bad, bad, false)
		for _, s := range append(rightSpans(), wrongSpans()...) {
			wantMeet(t, "one that is not Right", bad, s, false)
		}
	}
}

// wantSplit asks for false and zero ones, if want is empty.
func wantSplit(t *testing.T, what string, s api.Span, at string, want ...api.Span) {
	t.Helper()
	ok := len(want) == 2
	if !ok {
		want = make([]api.Span, 2)
	}
	low, high, got := span.Split(s, at)
	if got != ok || low != want[0] || high != want[1] {
		t.Errorf("P7.1: Split of %s at %.20q, %s: %s, %v, want %s, %v", show(s), at, what, show(low, high), got, show(want...), ok)
	}
}

func TestSplit(t *testing.T) {
	for _, c := range []struct {
		what string
		s    api.Span
		at   string
	}{
		{"between", of("a", "c"), "b"},
		{"just behind Lo", of("a", "c"), "a\x00"},
		{"just ahead of Hi", of("a", "c"), "b\xff"},
		{"an empty Hi", of("a", ""), "zz"},
		{"an empty Lo", of("", "c"), "b"},
		{"an empty Lo, at the lowest name", of("", "c"), "\x00"},
		{"all", of("", ""), "m"},
		{"all, at the lowest name", of("", ""), "\x00"},
		{"all, at a name of MaxName bytes", of("", ""), longest},
		{"an end of MaxName bytes, at a name of MaxName bytes", of("a", "tixteen.bytes.lo"), longest},
		{"of the longest Lo", of(longest, ""), "z"},
		{"of the longest Hi", of("", longest), "a"},
		{"by bytes", of("\x7f", "\x81"), "\x80"},
	} {
		wantSplit(t, c.what, c.s, c.at, of(c.s.Lo, c.at), of(c.at, c.s.Hi))
	}
}

func TestSplitRefuses(t *testing.T) {
	for _, c := range []struct {
		what string
		s    api.Span
		at   string
	}{
		{"at Lo", of("a", "c"), "a"},
		{"at Hi", of("a", "c"), "c"},
		{"behind Hi", of("a", "c"), "d"},
		{"just behind Hi", of("a", "c"), "c\x00"},
		{"ahead of Lo", of("b", "c"), "a"},
		{"ahead of Lo, an empty Hi", of("b", ""), "a"},
		{"at Lo, an empty Hi", of("b", ""), "b"},
		{"at the empty name", of("a", "c"), ""},
		{"at the empty name, an empty Hi", of("a", ""), ""},
		{"at the empty name, an empty Lo", of("", "c"), ""},
		{"at the empty name, all", of("", ""), ""},
		{"by bytes, ahead of Lo", of("a", ""), "Z"},
		{"by bytes, behind Hi", of("a", "c"), "\x80"},
		{"at a name that is too long", of("", ""), tooLong},
		{"at a name that is too long, between", of("a", "z"), tooLong},
		{"at a huge name", of("", ""), huge()},
		{"of one text alone, at it", of("b", "b\x00"), "b"},
		{"of one text alone, at Hi", of("b", "b\x00"), "b\x00"},
	} {
		wantSplit(t, c.what, c.s, c.at)
	}
	for _, bad := range wrongSpans() {
		for _, at := range []string{"", "\x00", "a", "aa", "b", "m", "sixteen", longest, tooLong, "y", "z", "\xff"} {
			wantSplit(t, "of one that is not Right", bad, at)
		}
	}
}

// wantJoin asks for false and a zero one, if want is empty.
func wantJoin(t *testing.T, what string, a, b api.Span, want ...api.Span) {
	t.Helper()
	ok := len(want) == 1
	if !ok {
		want = make([]api.Span, 1)
	}
	if s, got := span.Join(a, b); got != ok || s != want[0] {
		t.Errorf("P7.1: Join of %s, %s: %s, %v, want %s, %v", show(a, b), what, show(s), got, show(want...), ok)
	}
}

func TestJoin(t *testing.T) {
	for _, c := range []struct {
		what string
		a, b api.Span
		want api.Span
	}{
		{"touching", of("a", "b"), of("b", "c"), of("a", "c")},
		{"to all", of("", "b"), of("b", ""), of("", "")},
		{"from the empty name on", of("", "b"), of("b", "c"), of("", "c")},
		{"to the end", of("a", "b"), of("b", ""), of("a", "")},
		{"at the lowest name", of("", "\x00"), of("\x00", "a"), of("", "a")},
		{"at the longest", of("a", longest), of(longest, "z"), of("a", "z")},
		{"of one text each", of("a", "a\x00"), of("a\x00", "a\x00\x00"), of("a", "a\x00\x00")},
		{"by bytes", of("\x7f", "\x80"), of("\x80", "\x81"), of("\x7f", "\x81")},
	} {
		wantJoin(t, c.what, c.a, c.b, c.want)
	}
}

func TestJoinRefuses(t *testing.T) {
	for _, c := range []struct {
		what string
		a, b api.Span
	}{
		{"far from one another", of("a", "b"), of("c", "d")},
		{"one text between", of("a", "b"), of("b\x00", "c")},
		{"overlapping", of("a", "c"), of("b", "d")},
		{"within", of("a", "z"), of("c", "d")},
		{"turned round", of("b", "c"), of("a", "b")},
		{"turned round, of all names", of("b", ""), of("", "b")},
		{"an empty Hi and an empty Lo", of("a", ""), of("", "a")},
		{"an empty Hi and an empty Lo, overlapping", of("a", ""), of("", "b")},
		{"an empty Hi", of("a", ""), of("b", "")},
		{"an empty Hi and all", of("a", ""), of("", "")},
		{"all and an empty Lo", of("", ""), of("", "a")},
		{"all twice", of("", ""), of("", "")},
		{"the first not Right", of("c", "b"), of("b", "d")},
		{"the first not Right, of no text", of("b", "b"), of("b", "d")},
		{"the second not Right", of("a", "b"), of("b", "a")},
		{"the second not Right, of no text", of("a", "b"), of("b", "b")},
		{"both not Right", of("b", "b"), of("b", "b")},
		{"a Lo that is too long", of(tooLong, "t"), of("t", "z")},
		{"a Hi that is too long", of("a", "b"), of("b", tooLong)},
		{"touching at a name that is too long", of("a", tooLong), of(tooLong, "z")},
		{"touching at a huge name", of("a", huge()), of(huge(), "")},
	} {
		wantJoin(t, c.what, c.a, c.b)
	}
	for _, s := range rightSpans() {
		wantJoin(t, "the same one twice", s, s)
		for _, bad := range wrongSpans() {
			wantJoin(t, "one that is not Right", s, bad)
			wantJoin(t, "one that is not Right", bad, s)
		}
	}
}

// TestJoinOfWhatWasSplit: both parts are Right, touch, do not Meet, and are s again.
func TestJoinOfWhatWasSplit(t *testing.T) {
	for _, s := range rightSpans() {
		for _, at := range []string{"\x00", "a", "a\x00", "aa", "b", "m", longest, "t", "\x80", "\xff", "\xff\xff"} {
			low, high, ok := span.Split(s, at)
			if !ok {
				continue
			}
			if !span.Right(low) || !span.Right(high) {
				t.Errorf("P7.1: Split of %s at %q: not Right: %s", show(s), at, show(low, high))
			}
			wantMeet(t, "the parts of a Split", low, high, false)
			wantJoin(t, "the parts of a Split", low, high, s)
			wantJoin(t, "the parts of a Split, turned round", high, low)
		}
	}
}
