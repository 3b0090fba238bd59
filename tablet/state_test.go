package tablet_test

import (
	"bytes"
	"fmt"
	"slices"
	"strings"
	"testing"

	"wardmote/api"
	"wardmote/tablet"
)

// states are of tablets of all kinds, each with its span.
func states(t *testing.T) map[string]body {
	t.Helper()
	ok := encoded(t, code(api.OK))
	return map[string]body{
		"untouched":                       {span: of("", ""), gen: 1},
		"the greatest Gen":                {span: of("a", "b"), gen: greatest},
		"a reply":                         {span: of("a", "b"), gen: 3, replies: []reply{{1, 1, ok}}},
		"replies of all kinds":            {span: of("a", "b"), gen: 3, replies: repliesOfAllKinds(t)},
		"a row":                           {span: of("a", "b"), gen: 3, rows: []api.Named{one("a", 1)}, replies: []reply{{1, 1, ok}}},
		"rows at both ends":               {span: of("a", "b"), gen: 3, rows: []api.Named{one("a", 1), one("az", 1)}, replies: []reply{{0, 2, ok}, {255, greatest, ok}}},
		"rows, all names":                 {span: of("", ""), gen: 3, rows: []api.Named{one("\x00", 1), one("\xff\xff", 1)}, replies: []reply{{1, 1, ok}}},
		"a refused reply, and a row":      {span: of("", ""), gen: 3, rows: []api.Named{one("a", 1)}, replies: []reply{{1, 1, encoded(t, code(api.ErrCond))}}},
		"a second number that told rows":  {span: of("", ""), gen: 3, replies: []reply{{1, 2, encoded(t, rowsOf(one("a", 1)))}}},
		"a first number that told rows":   {span: of("", ""), gen: 3, replies: []reply{{1, 1, encoded(t, rowsOf(one("a", 1)))}, {2, 1, ok}}},
		"first numbers that told rows":    {span: of("", ""), gen: 3, replies: []reply{{1, 1, encoded(t, rowsOf(one("a", 1)))}, {2, 1, encoded(t, rowsOf(one("b", 1)))}, {3, 1, ok}}},
		"a second number among the first": {span: of("", ""), gen: 3, replies: []reply{{1, 1, encoded(t, rowsOf(one("a", 1)))}, {2, 2, encoded(t, rowsOf(one("b", 1)))}}},
	}
}

func repliesOfAllKinds(t *testing.T) []reply {
	t.Helper()
	var sixteen []api.Named
	for i := range api.MaxScan {
		sixteen = append(sixteen, one(fmt.Sprintf("k%02d", i), 1))
	}
	var l []reply
	for i, a := range []api.Answer{
		code(api.OK), code(api.ErrCond), code(api.ErrKind), code(api.ErrFull), rowsOf(one("elsewhere", 1)),
		scanned("", ""), scanned("a", "b"), scanned("a", ""), scanned("", "b"), scanned("a", "c", one("a", 1), one("bz", 2)), scanned("", "", sixteen...), scanned("k", "k16", sixteen...),
	} {
		l = append(l, reply{i * 20, 1 + i*i, encoded(t, a)})
	}
	return l
}

func wantInstall(t *testing.T, what string, at api.Span, state []byte, want api.Errno) *tablet.Store {
	t.Helper()
	s := made(t)
	wantAnswer(t, "P10.1: Install of a State: "+what, s.Do(9, 1, install(at.Lo, at.Hi, 5, state)), code(want))
	if s.Last() != 5 || len(s.Live()) != map[api.Errno]int{api.OK: 1}[want] {
		t.Errorf("P10.1: Install of a State: %s: %s", what, picture(s))
	}
	return s
}

// TestInstallOfStates: of each kind; and Freeze tells the same, but for the Gen.
func TestInstallOfStates(t *testing.T) {
	for what, x := range states(t) {
		s := wantInstall(t, what, x.span, x.state(), api.OK)
		x.gen = 5
		got := s.Do(9, 1, freeze(x.span.Lo, x.span.Hi, 5)).State
		if !bytes.Equal(got, x.state()) {
			t.Errorf("P10.1: Freeze of what was installed: %s: % x, want % x", what, got, x.state())
		}
		for _, y := range x.replies {
			a := s.Do(y.client, y.seq, get(inside(x.span)))
			if !bytes.Equal(encoded(t, a), y.answer) {
				t.Errorf("P10.1: a reply of what was installed: %s, client %d: %+v", what, y.client, a)
			}
		}
	}
}

// inside is a name of that span, which begins at a name or at the empty one.
func inside(s api.Span) string {
	if s.Lo == "" {
		return "\x00"
	}
	return s.Lo
}

// TestInstallOfAnotherSpan: the State must be of just this Span.
func TestInstallOfAnotherSpan(t *testing.T) {
	for what, x := range states(t) {
		for _, at := range []api.Span{of("a", ""), of("", "b"), of("a", "c"), of("a", "bb"), of("0", "b"), of("a", "a\x00"), of("x", "y")} {
			wantInstall(t, what+", another span", at, x.state(), api.ErrForm)
		}
	}
}

// TestInstallOfLess: a State cut off at each place, with more behind it, with bytes turned.
func TestInstallOfLess(t *testing.T) {
	for what, x := range states(t) {
		b := x.state()
		for i := range b {
			wantInstall(t, fmt.Sprint(what, ", the first ", i, " bytes"), x.span, b[:i], api.ErrForm)
			wantInstall(t, fmt.Sprint(what, ", all but the first ", i+1, " bytes"), x.span, b[i+1:], api.ErrForm)
		}
		for _, more := range []string{"\x00", "\xff", "\x00\x00\x00\x00", string(b)} {
			wantInstall(t, what+", with more behind it", x.span, slices.Concat(b, []byte(more)), api.ErrForm)
		}
	}
	for _, b := range []string{"\x00", "\xff\xff\xff\xff", "rubbish", strings.Repeat("\x00", 20), strings.Repeat("\xff", 200)} {
		wantInstall(t, fmt.Sprintf("%.20q", b), of("", ""), []byte(b), api.ErrForm)
	}
}

// TestInstallOfTurned: what is taken, Freeze tells again, byte for byte but for the Gen; what is refused leaves nothing.
func TestInstallOfTurned(t *testing.T) {
	taken, refused := 0, 0
	for what, x := range states(t) {
		b, at := x.state(), x.span
		genAt := 8 + len(at.Lo) + len(at.Hi)
		for i := range b {
			for _, x := range turns() {
				turned := slices.Clone(b)
				turned[i] ^= x
				s := made(t)
				if s.Do(9, 1, install(at.Lo, at.Hi, 5, turned)).Code != api.OK {
					wantPicture(t, "P10.1: Install of a turned State", s, "5")
					refused++
					continue
				}
				taken++
				wantInOrder(t, fmt.Sprint(what, ", byte ", i, " turned"), s)
				copy(turned[genAt:], []byte{0, 0, 0, 5})
				if got := s.Do(9, 1, freeze(at.Lo, at.Hi, 5)).State; !bytes.Equal(got, turned) {
					t.Fatalf("P10.1: Install of a State, %s, byte %d turned: Freeze tells % x, want % x", what, i, got, turned)
				}
			}
		}
	}
	if taken == 0 || refused == 0 {
		t.Errorf("P10.1: of turned States %d are taken, %d refused", taken, refused)
	}
}

// noStates are of tablets that no commands make; all have the span a to c.
func noStates(t *testing.T) map[string]body {
	t.Helper()
	ok := encoded(t, code(api.OK))
	out := map[string]body{
		"Gen 0":                         {gen: 0},
		"Gen above 2^30":                {gen: greatest + 1},
		"Gen far above 2^30":            {gen: 1<<32 - 1},
		"a row below the span":          {gen: 1, rows: []api.Named{one("Z", 1), one("b", 1)}, replies: []reply{{1, 1, ok}}},
		"a row at the span's Hi":        {gen: 1, rows: []api.Named{one("b", 1), one("c", 1)}, replies: []reply{{1, 1, ok}}},
		"a row behind the span":         {gen: 1, rows: []api.Named{one("d", 1)}, replies: []reply{{1, 1, ok}}},
		"rows that fall":                {gen: 1, rows: []api.Named{one("b", 1), one("a", 1)}, replies: []reply{{1, 1, ok}}},
		"a row twice":                   {gen: 1, rows: []api.Named{one("a", 1), one("a", 1)}, replies: []reply{{1, 1, ok}}},
		"a row without columns":         {gen: 1, rows: []api.Named{{Name: "a"}}, replies: []reply{{1, 1, ok}}},
		"a row that nobody brought":     {gen: 1, rows: []api.Named{one("a", 1)}},
		"a row that was told, not made": {gen: 1, replies: []reply{{1, 1, encoded(t, rowsOf(one("a", 1)))}}},
		"rows that were told, not made": {gen: 1, replies: []reply{{1, 1, encoded(t, rowsOf(one("a", 1)))}, {2, 1, encoded(t, scanned("a", "c", one("b", 1)))}}},
		"clients that fall":             {gen: 1, replies: []reply{{2, 1, ok}, {1, 1, ok}}},
		"a client twice":                {gen: 1, replies: []reply{{1, 1, ok}, {1, 2, ok}}},
		"number 0":                      {gen: 1, replies: []reply{{1, 0, ok}}},
		"a number above 2^30":           {gen: 1, replies: []reply{{1, greatest + 1, ok}}},
		"an answer of no bytes":         {gen: 1, replies: []reply{{1, 1, nil}}},
		"an answer cut off":             {gen: 1, replies: []reply{{1, 1, ok[1:]}}},
		"an answer with more":           {gen: 1, replies: []reply{{1, 1, append(slices.Clone(ok), 0)}}},
		"rubbish told among others":     {gen: 1, replies: []reply{{1, 1, ok}, {2, 1, []byte("rubbish")}, {3, 1, ok}}},
	}
	for i, a := range noReplies() {
		out[fmt.Sprintf("a reply that no operation tells, %d: %+v", i, a)] = body{gen: 1, replies: []reply{{1, 1, ok}, {2, 2, encoded(t, a)}}}
	}
	for what, x := range out {
		x.span = of("a", "c")
		out[what] = x
	}
	return out
}

// noReplies are answers that no operation tells that is done.
func noReplies() []api.Answer {
	l := []api.Answer{
		{Group: 1}, {Gen: 1}, {Old: 1}, {To: 1}, {Do: 1}, {At: "a"}, {State: []byte("s")}, {Code: 255},
		{Code: api.ErrCond, Rows: []api.Named{one("a", 1)}}, {Code: api.ErrKind, Span: of("a", "")}, {Code: api.ErrFull, Gen: 1},
		rowsOf(one("b", 1), one("a", 1)), rowsOf(one("a", 1), one("a", 2)), rowsOf(api.Named{Name: "a"}),
		scanned("b", "", one("a", 1)), scanned("a", "b", one("a", 1), one("b", 1)), scanned("a", "b", one("c", 1)),
	}
	for _, e := range []api.Errno{api.ErrArg, api.ErrLong, api.ErrBusy, api.ErrForm, api.ErrCorrupt, api.ErrNone, api.ErrOver, api.ErrWrong, api.ErrOld} {
		l = append(l, code(e))
	}
	return l
}

// TestNoStates: ErrForm of Install, and no Load.
func TestNoStates(t *testing.T) {
	for what, x := range noStates(t) {
		wantInstall(t, what, x.span, x.state(), api.ErrForm)
		wantNoLoad(t, what, saved(9, api.ErrNone, x))
	}
}

// TestOddStatesAreTold: what looks odd in TestInstallOfStates, Freeze tells.
func TestOddStatesAreTold(t *testing.T) {
	s := made(t, tab("", "m", 1), tab("m", "", 1))
	s.Do(1, 1, add("n", 1))
	s.Do(1, 1, when(api.Cond{Has: true, Want: true, Col: "c", V: text("")}, add("a", 1)))
	s.Do(2, 1, get("n"))
	s.Do(9, 1, merge("", "", 2, "m"))
	want := body{span: of("", ""), gen: 2, rows: []api.Named{one("n", 1)}, replies: []reply{{1, 1, encoded(t, code(api.ErrCond))}, {2, 1, encoded(t, rowsOf(one("n", 1)))}}}
	state := frozenState(t, s, "", "", 2)
	if !bytes.Equal(state, want.state()) {
		t.Errorf("P10.1: an odd State: % x, want % x", state, want.state())
	}
	wantInstall(t, "an odd one", of("", ""), state, api.OK)
}

// TestGreatStates: all clients were told all that may be told, and the tablet is full.
func TestGreatStates(t *testing.T) {
	s := made(t, tab("", "", 1))
	for i := range api.MaxRows {
		wantAnswer(t, "P10.1: a full tablet", s.Do(255, i+1, add(fmt.Sprintf("k%02d", i), 1)), code(api.OK))
	}
	for client := range 256 {
		s.Do(client, 100+client, scan("k", "", api.MaxScan))
	}
	b := s.Save()
	wantSaved(t, "P10.2: a great store", loaded(t, "a great store", b), b)
	state := frozenState(t, s, "", "", 1)
	to := made(t)
	wantAnswer(t, "P10.1: Install of a great State", to.Do(9, 1, install("", "", 1, state)), code(api.OK))
	wantAnswer(t, "P10.1: what the last client was told", to.Do(255, 355, get("k00")), s.Do(255, 355, get("k00")))
}

// TestTooGreatStates: Freeze tells a State above MaxBytes all the same; Save and Load take it; no Install of it is Right.
func TestTooGreatStates(t *testing.T) {
	s := great(t)
	for client := range 256 {
		s.Do(client, 100, scan(long(0), "", api.MaxScan))
	}
	b := s.Save()
	wantSaved(t, "P10.2: a store that is too great for a State", loaded(t, "a great store", b), b)
	state := frozenState(t, s, "", "", 1)
	if len(state) <= api.MaxBytes {
		t.Fatalf("P10.1: a State of %d bytes, which is not too great", len(state))
	}
	to := made(t)
	wantAnswer(t, "P10.1: Install of a State above MaxBytes", to.Do(9, 1, install("", "", 1, state)), code(api.ErrArg))
	wantPicture(t, "P10.1: Install of a State above MaxBytes", to, "0")
	wantAnswer(t, "P10.1: what a client was told, behind it", s.Do(7, 100, get("a")), loaded(t, "a great store", b).Do(7, 100, get("a")))
}
