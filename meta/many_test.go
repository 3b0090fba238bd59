package meta_test

import (
	"math/rand"
	"slices"
	"testing"

	"wardmote/api"
	"wardmote/meta"
	"wardmote/span"
)

// wordsPut is what there is behind Put of l in all, and its answer, by the document's words alone.
func wordsPut(all, l []api.Tablet) ([]api.Tablet, api.Errno) {
	if len(l) == 0 {
		return all, api.ErrArg
	}
	for i, x := range l {
		if x.Group < 0 || x.Group > 255 || x.Gen < 1 || x.Gen > 1<<30 {
			return all, api.ErrArg
		}
		if i > 0 && (x.Span.Lo != l[i-1].Span.Hi || x.Span.Lo == "") {
			return all, api.ErrArg
		}
	}
	var lower, upper []api.Tablet
	for _, x := range all {
		meets := false
		for _, y := range l {
			meets = meets || span.Meet(x.Span, y.Span)
		}
		switch {
		case meets:
		case x.Span.Lo < l[0].Span.Lo:
			lower = append(lower, x)
		default:
			upper = append(upper, x)
		}
	}
	then := slices.Concat(lower, l, upper)
	var spans []api.Span
	for _, x := range then {
		spans = append(spans, x.Span)
	}
	switch {
	case !span.Cover(spans...):
		return all, api.ErrArg
	case len(then) > 16:
		return all, api.ErrFull
	}
	return then, api.OK
}

// moreCuts rise as someCuts do: more than a table may have.
func moreCuts() []string {
	l := someCuts()
	for _, at := range someCuts() {
		if len(at) < 16 {
			l = append(l, at+"\x01")
		}
	}
	slices.Sort(l)
	return l
}

// somePut is mostly a row of tablets that begins and ends where some of all do.
func somePut(rnd *rand.Rand, all []api.Tablet) []api.Tablet {
	from := rnd.Intn(len(all))
	to := min(len(all)-1, from+rnd.Intn(4))
	lo, hi := all[from].Span.Lo, all[to].Span.Hi
	var l []api.Tablet
	rarely := 1 + rnd.Intn(6)
	for _, at := range moreCuts() {
		if at > lo && (hi == "" || at < hi) && rnd.Intn(rarely) == 0 {
			l = append(l, tab(lo, at, rnd.Intn(256), 1+rnd.Intn(1<<30)))
			lo = at
		}
	}
	l = append(l, tab(lo, hi, rnd.Intn(256), 1+rnd.Intn(1<<30)))
	if rnd.Intn(3) == 0 {
		spoil(rnd, l)
	}
	return l[rnd.Intn(20)/19:]
}

// spoil turns one thing of l, so that it is mostly none that may be Put.
func spoil(rnd *rand.Rand, l []api.Tablet) {
	i, k := rnd.Intn(len(l)), rnd.Intn(len(l))
	x := spots()[rnd.Intn(len(spots()))]
	ends := append(someCuts(), "", tooLong)
	switch rnd.Intn(5) {
	case 0:
		l[i], l[k] = l[k], l[i]
	case 1:
		l[i].Group, l[i].Gen = x.group, x.gen
	case 2:
		l[i].Span.Lo = ends[rnd.Intn(len(ends))]
	case 3:
		l[i].Span.Hi = ends[rnd.Intn(len(ends))]
	case 4:
		l[i] = l[k]
	}
}

// TestManyPuts: Put against the words, and W3: behind each of them the tablets cover all names.
func TestManyPuts(t *testing.T) {
	rnd := rand.New(rand.NewSource(1101))
	told := map[api.Errno]int{}
	for range 60 {
		all := []api.Tablet{tab("", "", 1, 1)}
		m := made(t, all...)
		for range 80 {
			l := somePut(rnd, all)
			then, want := wordsPut(all, l)
			wantPut(t, "many", m, want, l...)
			wantTable(t, "P11.1: many Puts", m, then)
			told[want]++
			all = then
		}
	}
	if told[api.OK] < 1000 || told[api.ErrArg] < 300 || told[api.ErrFull] < 20 {
		t.Errorf("the test's own Puts: %v", told)
	}
}

// TestManyNews: New of what spoil makes of right ones, against the words of Put in the place of all.
func TestManyNews(t *testing.T) {
	rnd := rand.New(rand.NewSource(1102))
	right := 0
	for range 5000 {
		l := into(1 + rnd.Intn(maxTablets+2))
		for range rnd.Intn(2) {
			spoil(rnd, l)
		}
		_, want := wordsPut(nil, l)
		m, why := meta.New(l...)
		if why != want || (m != nil) != (want == api.OK) {
			t.Errorf("P11.1: New of %s: %v, a table: %v, want %v", show(l), why, m != nil, want)
		}
		if m != nil && why == api.OK {
			wantTable(t, "P11.1: many News", m, l)
			right++
		}
	}
	if right < 1000 {
		t.Errorf("the test's own lists: %d are right", right)
	}
}
