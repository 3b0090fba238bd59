package span_test

import (
	"math/rand"
	"testing"

	"wardmote/api"
	"wardmote/span"
)

// someEnds rise but for tooLong; some have no text between them, as a and a\x00 have none.
func someEnds() []string {
	return []string{"", "\x00", "\x00\x00", "Z", "a", "a\x00", "aa", "b", longest, tooLong, "t", "\x7f", "\x80", "\xff", "\xff\xff"}
}

// eachSpan is every one of these ends, Right or not.
func eachSpan() []api.Span {
	var l []api.Span
	for _, lo := range someEnds() {
		for _, hi := range someEnds() {
			l = append(l, of(lo, hi))
		}
	}
	return l
}

// isRight and has are by the document's words.
func isRight(s api.Span) bool {
	if len(s.Lo) > 16 || len(s.Hi) > 16 {
		return false
	}
	return s.Hi == "" || s.Hi > s.Lo
}

func has(s api.Span, name string) bool {
	if name < s.Lo {
		return false
	}
	return s.Hi == "" || s.Hi > name
}

// meets looks for a text that both have, among all ends and the texts just behind them.
func meets(a, b api.Span) bool {
	if !isRight(a) || !isRight(b) {
		return false
	}
	for _, x := range someEnds() {
		if has(a, x) && has(b, x) || has(a, x+"\x00") && has(b, x+"\x00") {
			return true
		}
	}
	return false
}

func TestEachSpan(t *testing.T) {
	for _, s := range eachSpan() {
		if got := span.Right(s); got != isRight(s) {
			t.Errorf("P7.1: Right of %s: %v", show(s), got)
		}
		for _, x := range someEnds() {
			for _, name := range []string{x, x + "\x00", x + "m"} {
				if got := span.Has(s, name); got != has(s, name) {
					t.Errorf("P7.1: Has of %s, %q: %v", show(s), name, got)
				}
			}
			if isRight(s) && len(x) <= 16 && x > s.Lo && (s.Hi == "" || s.Hi > x) {
				wantSplit(t, "each end", s, x, of(s.Lo, x), of(x, s.Hi))
			} else {
				wantSplit(t, "each end", s, x)
			}
		}
	}
}

func TestEachTwo(t *testing.T) {
	all := eachSpan()
	for _, a := range all {
		for _, b := range all {
			if got := span.Meet(a, b); got != meets(a, b) {
				t.Errorf("P7.1: Meet of %s: %v", show(a, b), got)
			}
			if isRight(a) && isRight(b) && a.Hi == b.Lo && a.Hi != "" {
				wantJoin(t, "each two", a, b, of(a.Lo, b.Hi))
			} else {
				wantJoin(t, "each two", a, b)
			}
		}
	}
}

// covers and isApart are by the document's words.
func covers(l []api.Span) bool {
	for i, s := range l {
		if !isRight(s) || i == 0 && s.Lo != "" || i > 0 && (s.Lo != l[i-1].Hi || s.Lo == "") {
			return false
		}
	}
	return len(l) > 0 && l[len(l)-1].Hi == ""
}

func isApart(l []api.Span) bool {
	for i, a := range l {
		if !isRight(a) {
			return false
		}
		for k, b := range l {
			if i != k && meets(a, b) {
				return false
			}
		}
	}
	return true
}

// someList is mostly near to one that covers all names, or whose spans are apart.
func someList(rnd *rand.Rand) []api.Span {
	var at []string
	for _, x := range someEnds()[1:] {
		if x != tooLong && rnd.Intn(3) == 0 || rnd.Intn(40) == 0 {
			at = append(at, x)
		}
	}
	l := cut(at...)
	all := eachSpan()
	for range rnd.Intn(3) {
		i, k := rnd.Intn(len(l)), rnd.Intn(len(l))
		switch rnd.Intn(4) {
		case 0:
			l[i], l[k] = l[k], l[i]
		case 1:
			l[i] = all[rnd.Intn(len(all))]
		case 2:
			l = append(l, all[rnd.Intn(len(all))])
		case 3:
			l = l[:max(1, len(l)-1)]
		}
	}
	return l
}

func TestManyLists(t *testing.T) {
	rnd := rand.New(rand.NewSource(71))
	told := [2][2]int{}
	for range 20000 {
		l := someList(rnd)
		wantLists(t, "some list", l, covers(l), isApart(l))
		told[number(covers(l))][number(isApart(l))]++
	}
	if told[0][0] < 1000 || told[0][1] < 1000 || told[1][1] < 1000 || told[1][0] > 0 {
		t.Errorf("the test's own lists, by Cover and Apart: %v", told)
	}
}

func number(b bool) int {
	if b {
		return 1
	}
	return 0
}
