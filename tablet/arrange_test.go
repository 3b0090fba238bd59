package tablet_test

import (
	"fmt"
	"strings"
	"testing"

	"wardmote/api"
	"wardmote/octet"
	"wardmote/once"
	"wardmote/rows"
	"wardmote/span"
	"wardmote/tablet"
)

// stateOf is, by lower layers alone, the State of such a tablet.
func stateOf(s api.Span, gen int, table *rows.Table, cache *once.Cache) []byte {
	w := octet.New()
	span.Write(w, s)
	w.Num(uint32(gen))
	table.Write(w)
	cache.Write(w)
	return w.Done()
}

// emptyState is the State of a tablet of which nothing was asked.
func emptyState(lo, hi string) []byte {
	return stateOf(of(lo, hi), 1, rows.New(), once.New())
}

// frozenState is what Freeze tells of that tablet; it must be there.
func frozenState(t *testing.T, s *tablet.Store, lo, hi string, gen int) []byte {
	t.Helper()
	a := s.Do(9, 1, freeze(lo, hi, gen))
	wantAnswer(t, "P10.1: Freeze", a, api.Answer{State: a.State})
	if len(a.State) == 0 {
		t.Fatal("P10.1: Freeze tells no State")
	}
	return a.State
}

func TestFreezeOfNone(t *testing.T) {
	s := made(t, tab("", "c", 1), tab("c", "m", 2), tab("m", "", 3))
	s.Do(1, 1, add("d", 1))
	was := s.Save()
	for _, c := range []api.Command{
		freeze("c", "m", 1), freeze("c", "m", 3), freeze("c", "m", greatest), freeze("", "c", 2),
		freeze("c", "", 2), freeze("c", "n", 2), freeze("", "m", 2), freeze("d", "m", 2), freeze("", "", 1), freeze("c", "mm", 2), freeze("x", "y", 1),
	} {
		wantAnswer(t, fmt.Sprintf("P10.1: Freeze of %v, Gen %d", c.Span, c.Gen), s.Do(9, 1, c), code(api.ErrNone))
		wantSaved(t, "P10.1: Freeze of none", s, was)
	}
	wantAnswer(t, "P10.1: Freeze in a store of none", made(t).Do(9, 1, freeze("", "", 1)), code(api.ErrNone))
}

func TestFreeze(t *testing.T) {
	s := made(t, tab("", "c", 1), tab("c", "m", 2), tab("m", "", 3))
	s.Do(1, 1, add("d", 1))
	s.Do(2, 8, get("d"))
	state := frozenState(t, s, "c", "m", 2)
	wantPicture(t, "P10.1: Freeze", s, "3 -c#1 m-#3 !c-m#2")
	was := s.Save()
	for range 3 {
		wantAnswer(t, "P10.1: frozen twice", s.Do(7, 1, freeze("c", "m", 2)), api.Answer{State: state})
		s.Do(1, 2, add("d", 1))
		wantSaved(t, "P10.1: frozen twice", s, was)
	}
	wantAnswer(t, "P10.1: Freeze of another Gen", s.Do(7, 1, freeze("c", "m", 1)), code(api.ErrNone))
}

// TestStateTellsAll: Span, Gen, table and cache: where one of them differs, the State does.
func TestStateTellsAll(t *testing.T) {
	base := func() *tablet.Store { return made(t, tab("c", "m", 2), tab("m", "", 3)) }
	s := base()
	s.Do(1, 1, add("d", 1))
	state := frozenState(t, s, "c", "m", 2)
	table, cache := rows.New(), once.New()
	table.Set("d", one("d", 1).R)
	cache.Keep(1, 1, encoded(t, code(api.OK)))
	if want := stateOf(of("c", "m"), 2, table, cache); string(state) != string(want) {
		t.Errorf("P10.1: State: % x, want % x", state, want)
	}
	same := base()
	same.Do(1, 1, add("d", 1))
	same.Do(1, 2, add("n", 5))
	if string(frozenState(t, same, "c", "m", 2)) != string(state) {
		t.Error("P10.1: State hangs on another tablet")
	}
	for what, x := range map[string]struct {
		lo, hi     string
		gen        int
		client     int
		seq        int
		name       string
		add        float64
		thenClient int
	}{
		"another Lo":              {"b", "m", 2, 1, 1, "d", 1, -1},
		"another Hi":              {"c", "n", 2, 1, 1, "d", 1, -1},
		"another Gen":             {"c", "m", 3, 1, 1, "d", 1, -1},
		"another client":          {"c", "m", 2, 2, 1, "d", 1, -1},
		"another number":          {"c", "m", 2, 1, 2, "d", 1, -1},
		"another row":             {"c", "m", 2, 1, 1, "e", 1, -1},
		"another cell":            {"c", "m", 2, 1, 1, "d", 2, -1},
		"one more that was told":  {"c", "m", 2, 1, 1, "d", 1, 2},
		"none but the given ones": {"c", "m", 2, 1, 1, "d", 1, -1},
	} {
		s := made(t, tab(x.lo, x.hi, x.gen))
		s.Do(x.client, x.seq, add(x.name, x.add))
		s.Do(x.thenClient, 1, get(x.name))
		got := frozenState(t, s, x.lo, x.hi, x.gen)
		if (string(got) == string(state)) != (what == "none but the given ones") {
			t.Errorf("P10.1: State: %s: % x, was % x", what, got, state)
		}
	}
}

func TestRetire(t *testing.T) {
	s := made(t, tab("", "c", 1), tab("c", "m", 2), tab("m", "", 3))
	s.Do(1, 1, add("d", 1))
	s.Do(9, 1, freeze("c", "m", 2))
	before := "3 -c#1 m-#3 !c-m#2"
	run(t, "P10.1: Retire", s,
		step{"live", 9, 1, retire("", "c", 1), code(api.ErrBusy), before},
		step{"live, the other one", 9, 1, retire("m", "", 3), code(api.ErrBusy), before},
		step{"a live one's span with another Gen", 9, 1, retire("", "c", 2), code(api.OK), before},
		step{"a frozen one's span with another Gen", 9, 1, retire("c", "m", 1), code(api.OK), before},
		step{"a frozen one's span with a greater Gen", 9, 1, retire("c", "m", 3), code(api.OK), before},
		step{"a frozen one's Gen with another Lo", 9, 1, retire("d", "m", 2), code(api.OK), before},
		step{"a frozen one's Gen with another Hi", 9, 1, retire("c", "", 2), code(api.OK), before},
		step{"frozen", 9, 1, retire("c", "m", 2), code(api.OK), "3 -c#1 m-#3"},
		step{"there is none", 9, 1, retire("c", "m", 2), code(api.OK), "3 -c#1 m-#3"},
		step{"a row of it", 1, 1, get("d"), code(api.ErrWrong), "3 -c#1 m-#3"},
		step{"frozen then", 9, 1, freeze("c", "m", 2), code(api.ErrNone), "3 -c#1 m-#3"},
	)
	run(t, "P10.1: Retire of none", made(t), step{"of none", 9, 1, retire("", "", 1), code(api.OK), "0"})
}

func TestRetireChangesNothingElse(t *testing.T) {
	for _, c := range []api.Command{retire("", "c", 1), retire("c", "m", 1), retire("x", "z", 4)} {
		s := made(t, tab("", "c", 1), tab("c", "m", 2))
		s.Do(1, 1, add("d", 1))
		s.Do(9, 1, freeze("c", "m", 2))
		was := s.Save()
		s.Do(9, 2, c)
		wantSaved(t, fmt.Sprintf("P10.1: Retire of %v, Gen %d", c.Span, c.Gen), s, was)
	}
}

// arranged is what Install, Split and Merge ask of a store of two live tablets and a frozen one, and what comes of it.
type arranged struct {
	what string
	c    api.Command
	want api.Errno
	then string
}

const before = "-c#1 c-m#5 !m-t#3 a=1 d=2"

func three(t *testing.T) *tablet.Store {
	t.Helper()
	s := made(t, tab("", "c", 1), tab("c", "m", 5), tab("m", "t", 3))
	s.Do(1, 1, add("a", 1))
	s.Do(1, 2, add("d", 2))
	s.Do(2, 1, add("n", 3))
	s.Do(9, 1, freeze("m", "t", 3))
	wantPicture(t, "P10.1: a store that the tests begin with", s, "5 "+before)
	return s
}

func arrangements() []arranged {
	return []arranged{
		{"Install", install("t", "", 6, emptyState("t", "")), api.OK, "-c#1 c-m#5 t-#6 !m-t#3 a=1 d=2"},
		{"Install in the place of a frozen one", install("m", "t", 6, emptyState("m", "t")), api.OK, "-c#1 c-m#5 m-t#6 a=1 d=2"},
		{"Install of no State", install("t", "", 6, nil), api.ErrForm, before},
		{"Install of another span's State", install("t", "", 6, emptyState("t", "z")), api.ErrForm, before},
		{"Install of what Meets a live one", install("c", "m", 6, emptyState("c", "m")), api.ErrBusy, before},
		{"Split", split("c", "m", 6, "e"), api.OK, "-c#1 c-e#6 e-m#6 !m-t#3 a=1 d=2"},
		{"Split of no tablet's span", split("c", "n", 6, "e"), api.ErrNone, before},
		{"Split of a frozen one", split("m", "t", 6, "o"), api.ErrNone, before},
		{"Merge", merge("", "m", 6, "c"), api.OK, "-m#6 !m-t#3 a=1 d=2"},
		{"Merge of no tablets' spans", merge("", "m", 6, "d"), api.ErrNone, before},
		{"Merge with a frozen one", merge("c", "t", 6, "m"), api.ErrNone, before},
	}
}

// TestGens: below Last ErrOld; Last its Code, and nothing; above it done, or refused, and Last and its Code are that.
func TestGens(t *testing.T) {
	for _, x := range arrangements() {
		for gen := 1; gen <= 4; gen++ {
			s := three(t)
			was := s.Save()
			c := x.c
			c.Gen = gen
			wantAnswer(t, fmt.Sprintf("P10.1: %s, Gen %d", x.what, gen), s.Do(9, 2, c), code(api.ErrOld))
			wantSaved(t, "P10.1: ErrOld: "+x.what, s, was)
		}
		s := three(t)
		was := s.Save()
		c := x.c
		c.Gen = 5
		wantAnswer(t, "P10.1: Last's Gen: "+x.what, s.Do(9, 2, c), code(api.OK))
		wantSaved(t, "P10.1: Last's Gen: "+x.what, s, was)
		for _, gen := range []int{6, 7, 1000, greatest} {
			s := three(t)
			c.Gen = gen
			wantAnswer(t, fmt.Sprintf("P10.1: %s, Gen %d", x.what, gen), s.Do(9, 2, c), code(x.want))
			wantPicture(t, "P10.1: "+x.what, s, fmt.Sprint(gen, " ")+strings.ReplaceAll(x.then, "#6", fmt.Sprint("#", gen)))
		}
	}
}

// TestLastsCode: whatever was asked with Last's Gen, what is asked then with it is told its Code, and nothing is done.
func TestLastsCode(t *testing.T) {
	for _, x := range arrangements() {
		for _, y := range arrangements() {
			s := three(t)
			s.Do(9, 2, x.c)
			was := s.Save()
			wantAnswer(t, fmt.Sprintf("P10.1: %s, behind %s with this Gen", y.what, x.what), s.Do(9, 3, y.c), code(x.want))
			wantSaved(t, "P10.1: Last's Gen again: "+y.what, s, was)
			old := y.c
			old.Gen = 5
			wantAnswer(t, fmt.Sprintf("P10.1: %s, behind %s with a greater Gen", y.what, x.what), s.Do(9, 3, old), code(api.ErrOld))
			wantSaved(t, "P10.1: below Last: "+y.what, s, was)
		}
	}
}

// TestLastStays: Operate, Freeze, Retire, Nothing and what is not Right leave Last and its Code alone.
func TestLastStays(t *testing.T) {
	for _, c := range []api.Command{
		add("a", 1), get("a"), get("n"), freeze("", "c", 1), freeze("", "c", 99), retire("m", "t", 3), retire("", "c", 1), retire("", "c", 99), {Kind: api.Nothing, Gen: 99},
		split("", "c", 99, ""), merge("", "m", 99, "m"), install("z", "a", 99, nil), {Kind: api.Publish, Gen: 99},
	} {
		s := three(t)
		s.Do(9, 2, split("c", "n", 7, "e"))
		s.Do(3, 1, c)
		if s.Last() != 7 {
			t.Errorf("P10.1: Last behind Kind %d: %d", c.Kind, s.Last())
		}
		wantAnswer(t, fmt.Sprintf("P10.1: Last's Code behind Kind %d", c.Kind), s.Do(9, 3, merge("", "m", 7, "c")), code(api.ErrNone))
	}
}

// TestInstallOfWhatMeets: live ones, and frozen ones, one or several, at each side.
func TestInstallOfWhatMeets(t *testing.T) {
	for _, x := range []struct {
		what   string
		frozen string
		lo, hi string
		want   api.Errno
		then   string
	}{
		{"none", "", "x", "", api.OK, "9 c-f#1 f-m#4 m-t#2 x-#9"},
		{"none, it touches", "", "t", "", api.OK, "9 c-f#1 f-m#4 m-t#2 t-#9"},
		{"none, it touches from below", "", "", "c", api.OK, "9 -c#9 c-f#1 f-m#4 m-t#2"},
		{"a live one", "", "f", "m", api.ErrBusy, "9 c-f#1 f-m#4 m-t#2"},
		{"a live one in part", "", "", "d", api.ErrBusy, "9 c-f#1 f-m#4 m-t#2"},
		{"a live one in part, from above", "", "s", "", api.ErrBusy, "9 c-f#1 f-m#4 m-t#2"},
		{"within a live one", "", "g", "h", api.ErrBusy, "9 c-f#1 f-m#4 m-t#2"},
		{"all", "", "", "", api.ErrBusy, "9 c-f#1 f-m#4 m-t#2"},
		{"a frozen one", "f", "f", "m", api.OK, "9 c-f#1 f-m#9 m-t#2"},
		{"within a frozen one", "f", "g", "h", api.OK, "9 c-f#1 g-h#9 m-t#2"},
		{"a frozen one in part", "c", "", "d", api.OK, "9 -d#9 f-m#4 m-t#2"},
		{"a frozen one in part, from above", "m", "s", "", api.OK, "9 c-f#1 f-m#4 s-#9"},
		{"around a frozen one", "m", "m", "", api.OK, "9 c-f#1 f-m#4 m-#9"},
		{"two frozen ones", "cf", "d", "g", api.OK, "9 d-g#9 m-t#2"},
		{"all, which are frozen", "cfm", "", "", api.OK, "9 -#9"},
		{"two frozen ones and a live one", "cf", "", "", api.ErrBusy, "9 m-t#2 !c-f#1 !f-m#4"},
		{"a live one and two frozen ones", "fm", "", "", api.ErrBusy, "9 c-f#1 !f-m#4 !m-t#2"},
		{"a live one among frozen ones", "cm", "", "", api.ErrBusy, "9 f-m#4 !c-f#1 !m-t#2"},
		{"none, beside frozen ones", "cfm", "t", "", api.OK, "9 t-#9 !c-f#1 !f-m#4 !m-t#2"},
	} {
		s := made(t, tab("c", "f", 1), tab("f", "m", 4), tab("m", "t", 2))
		for _, y := range s.Live() {
			if strings.Contains(x.frozen, y.Span.Lo) {
				s.Do(9, 1, freeze(y.Span.Lo, y.Span.Hi, y.Gen))
			}
		}
		wantAnswer(t, "P10.1: Install of what Meets "+x.what, s.Do(9, 2, install(x.lo, x.hi, 9, emptyState(x.lo, x.hi))), code(x.want))
		wantPicture(t, "P10.1: Install of what Meets "+x.what, s, x.then)
	}
}

// TestInstallBringsAll: the rows and the cache of the State, with the new Gen, not frozen; what was there of the frozen one is gone.
func TestInstallBringsAll(t *testing.T) {
	from := made(t, tab("", "", 7))
	from.Do(1, 5, add("a", 1))
	from.Do(1, 6, get("a"))
	from.Do(2, 3, add("b", 2))
	state := frozenState(t, from, "", "", 7)
	to := made(t, tab("", "", 1))
	to.Do(1, 9, add("z", 9))
	to.Do(3, 9, add("z", 9))
	to.Do(9, 1, freeze("", "", 1))
	run(t, "P10.1: Install", to,
		step{"with a Gen below the State's", 9, 1, install("", "", 2, state), code(api.OK), "2 -#2 a=1 b=2"},
		step{"twice", 9, 1, install("", "", 2, state), code(api.OK), "2 -#2 a=1 b=2"},
		step{"what was told", 1, 6, get("b"), rowsOf(one("a", 1)), "2 -#2 a=1 b=2"},
		step{"a number below", 1, 5, get("b"), code(api.ErrOld), "2 -#2 a=1 b=2"},
		step{"what the frozen one had told is forgotten", 3, 9, add("b", 1), code(api.OK), "2 -#2 a=1 b=3"},
		step{"a next number", 2, 4, add("b", 1), code(api.OK), "2 -#2 a=1 b=4"},
		step{"twice, behind that", 9, 1, install("", "", 2, state), code(api.OK), "2 -#2 a=1 b=4"},
	)
	again := frozenState(t, to, "", "", 2)
	other := made(t)
	wantAnswer(t, "P10.1: Install of what came by Install", other.Do(9, 1, install("", "", 1, again)), code(api.OK))
	wantPicture(t, "P10.1: Install of what came by Install", other, "1 -#1 a=1 b=4")
}

// TestInstallOrder: of several refusals the first one.
func TestInstallOrder(t *testing.T) {
	full := made(t, many(api.MaxTablets, 1)...)
	run(t, "P10.1: Install, which refusal", full,
		step{"no State, of what Meets a live one", 9, 1, install("00", "01", 2, nil), code(api.ErrForm), strings.Replace(picture(full), "1", "2", 1)},
	)
	wantAnswer(t, "P10.1: ErrBusy ahead of ErrFull", full.Do(9, 1, install("15", "", 3, emptyState("15", ""))), code(api.ErrBusy))
	wantAnswer(t, "P10.1: ErrForm ahead of ErrFull", full.Do(9, 1, install("x", "", 4, emptyState("x", "z"))), code(api.ErrForm))
	wantAnswer(t, "P10.1: ErrFull", full.Do(9, 1, install("x", "", 5, emptyState("x", ""))), code(api.ErrFull))
	wantAnswer(t, "P10.1: ErrOld ahead of ErrForm", full.Do(9, 1, install("x", "", 4, nil)), code(api.ErrOld))
}

// TestInstallOfMany: frozen ones count, but for those that make room.
func TestInstallOfMany(t *testing.T) {
	s := made(t, many(api.MaxTablets-1, 1)...)
	s.Do(9, 1, freeze("03", "04", 1))
	wantAnswer(t, "P10.1: Install up to MaxTablets", s.Do(9, 1, install("x", "y", 2, emptyState("x", "y"))), code(api.OK))
	was := picture(s)
	wantAnswer(t, "P10.1: Install of one above MaxTablets", s.Do(9, 1, install("y", "", 3, emptyState("y", ""))), code(api.ErrFull))
	wantPicture(t, "P10.1: Install of one above MaxTablets", s, strings.Replace(was, "2", "3", 1))
	wantAnswer(t, "P10.1: Install in the place of a frozen one", s.Do(9, 1, install("03", "04", 4, emptyState("03", "04"))), code(api.OK))
	if n := len(s.Live()); n != api.MaxTablets || len(s.Frozen()) != 0 {
		t.Errorf("P10.1: Install in the place of a frozen one: %s", picture(s))
	}
	wantAnswer(t, "P10.1: Install of one above MaxTablets", s.Do(9, 1, install("y", "", 5, emptyState("y", ""))), code(api.ErrFull))
}

// TestSplit: the run of the chapter, and the rows of both parts, with the whole cache in each.
func TestSplit(t *testing.T) {
	s := made(t, tab("", "", 1))
	for i, name := range []string{"a", "l\xff", "m", "m\x00", "z"} {
		s.Do(1, i+1, add(name, float64(i)))
	}
	s.Do(2, 7, get("z"))
	rest := " a=0 l\xff=1 m=2 m\x00=3 z=4"
	run(t, "P10.1: Split", s,
		step{"at m", 9, 1, split("", "", 2, "m"), code(api.OK), "2 -m#2 m-#2" + rest},
		step{"the first has the cache", 1, 5, get("a"), code(api.OK), "2 -m#2 m-#2" + rest},
		step{"all of it", 2, 7, get("a"), rowsOf(one("z", 4)), "2 -m#2 m-#2" + rest},
		step{"a number below", 2, 6, get("a"), code(api.ErrOld), "2 -m#2 m-#2" + rest},
		step{"the second has it too", 1, 5, get("m"), code(api.OK), "2 -m#2 m-#2" + rest},
		step{"all of it", 2, 7, get("n"), rowsOf(one("z", 4)), "2 -m#2 m-#2" + rest},
		step{"a number below", 2, 6, get("n"), code(api.ErrOld), "2 -m#2 m-#2" + rest},
		step{"the rows of the first", 3, 1, scan("", "", 9), scanned("", "m", one("a", 0), one("l\xff", 1)), "2 -m#2 m-#2" + rest},
		step{"the rows of the second", 3, 1, scan("m", "", 9), scanned("m", "", one("m", 2), one("m\x00", 3), one("z", 4)), "2 -m#2 m-#2" + rest},
		step{"Mutate n", 3, 2, add("n", 7), code(api.OK), "2 -m#2 m-#2 a=0 l\xff=1 m=2 m\x00=3 n=7 z=4"},
	)
	if l := s.Live(); len(l) != 2 || l[0].Span != of("", "m") || l[1].Span != of("m", "") {
		t.Errorf("P10.1: Split at m, Mutate n: Live is %v", l)
	}
}

// TestSplitPartsAreByThemselves: what is done to the one is not seen in the other.
func TestSplitPartsAreByThemselves(t *testing.T) {
	s := made(t, tab("", "", 1))
	s.Do(1, 1, add("a", 1))
	s.Do(9, 1, split("", "", 2, "m"))
	then := "2 -m#2 m-#2 a=2 n=1"
	run(t, "P10.1: Split", s,
		step{"a new number in the first", 1, 2, add("a", 1), code(api.OK), "2 -m#2 m-#2 a=2"},
		step{"the same one in the second", 1, 2, add("n", 1), code(api.OK), then},
		step{"a new client in the first", 2, 9, get("a"), rowsOf(one("a", 2)), then},
		step{"a lower number of it in the second", 2, 8, get("n"), rowsOf(one("n", 1)), then},
		step{"which the first does not know", 2, 8, get("a"), code(api.ErrOld), then},
	)
}

func TestSplitOfNone(t *testing.T) {
	gen := 5
	s := made(t, tab("", "f", 1), tab("f", "m", 2), tab("m", "", 3))
	s.Do(1, 1, add("g", 1))
	s.Do(9, 1, freeze("m", "", 3))
	for _, c := range []api.Command{
		split("", "", 0, "f"), split("f", "", 0, "m"), split("f", "n", 0, "g"), split("e", "m", 0, "g"), split("g", "m", 0, "h"), split("f", "l", 0, "g"), split("", "m", 0, "f"), split("m", "", 0, "n"), split("x", "y", 0, "xx"),
	} {
		gen++
		c.Gen = gen
		wantAnswer(t, fmt.Sprintf("P10.1: Split of %v", c.Span), s.Do(9, 1, c), code(api.ErrNone))
		wantPicture(t, fmt.Sprintf("P10.1: Split of %v", c.Span), s, fmt.Sprint(gen, " -f#1 f-m#2 !m-#3 g=1"))
	}
}

// TestSplitOfMany: frozen ones count; ErrNone is ahead of ErrFull.
func TestSplitOfMany(t *testing.T) {
	s := made(t, many(api.MaxTablets-1, 1)...)
	s.Do(9, 1, freeze("03", "04", 1))
	wantAnswer(t, "P10.1: Split up to MaxTablets", s.Do(9, 1, split("00", "01", 2, "005")), code(api.OK))
	was := picture(s)
	wantAnswer(t, "P10.1: Split above MaxTablets", s.Do(9, 1, split("01", "02", 3, "015")), code(api.ErrFull))
	wantPicture(t, "P10.1: Split above MaxTablets", s, strings.Replace(was, "2", "3", 1))
	wantAnswer(t, "P10.1: Split of a frozen one among many", s.Do(9, 1, split("03", "04", 4, "035")), code(api.ErrNone))
	wantAnswer(t, "P10.1: Split of none among many", s.Do(9, 1, split("x", "", 5, "z")), code(api.ErrNone))
	s.Do(9, 1, retire("03", "04", 1))
	wantAnswer(t, "P10.1: Split where there is room again", s.Do(9, 1, split("01", "02", 6, "015")), code(api.OK))
}

func TestMerge(t *testing.T) {
	s := made(t, tab("", "m", 1), tab("m", "", 2))
	s.Do(1, 5, add("a", 1))
	s.Do(1, 7, add("n", 1))
	s.Do(2, 9, get("a"))
	s.Do(2, 3, add("n", 1))
	s.Do(3, 4, get("a"))
	s.Do(3, 4, get("n"))
	s.Do(4, 1, get("a"))
	s.Do(5, 1, get("n"))
	then := "3 -#3 a=1 n=2"
	run(t, "P10.1: Merge", s,
		step{"of both", 9, 1, merge("", "", 3, "m"), code(api.OK), then},
		step{"the second's number is greater", 1, 7, get("zz"), code(api.OK), then},
		step{"the first's is not its number", 1, 5, get("zz"), code(api.ErrOld), then},
		step{"the first's number is greater", 2, 9, get("zz"), rowsOf(one("a", 1)), then},
		step{"the second's is not its number", 2, 3, get("zz"), code(api.ErrOld), then},
		step{"of the same number the first's", 3, 4, get("zz"), rowsOf(one("a", 1)), then},
		step{"who asked the first alone", 4, 1, get("zz"), rowsOf(one("a", 1)), then},
		step{"who asked the second alone", 5, 1, get("zz"), rowsOf(one("n", 2)), then},
		step{"rows of both", 6, 1, scan("", "", 9), scanned("", "", one("a", 1), one("n", 2)), then},
		step{"twice", 9, 1, merge("", "", 3, "m"), code(api.OK), then},
	)
}

func TestMergeOfNone(t *testing.T) {
	gen := 5
	s := made(t, tab("", "f", 1), tab("f", "m", 2), tab("m", "t", 3), tab("x", "", 4))
	s.Do(1, 1, add("g", 1))
	s.Do(9, 1, freeze("m", "t", 3))
	for _, c := range []api.Command{
		merge("", "", 0, "f"), merge("", "m", 0, "e"), merge("", "m", 0, "g"), merge("", "l", 0, "f"), merge("", "n", 0, "f"), merge("a", "m", 0, "f"), merge("", "f", 0, "c"),
		merge("f", "t", 0, "m"), merge("m", "", 0, "t"), merge("m", "", 0, "x"), merge("t", "", 0, "x"), merge("f", "", 0, "m"),
	} {
		gen++
		c.Gen = gen
		what := fmt.Sprintf("P10.1: Merge of %v at %s", c.Span, c.At)
		wantAnswer(t, what, s.Do(9, 1, c), code(api.ErrNone))
		wantPicture(t, what, s, fmt.Sprint(gen, " -f#1 f-m#2 x-#4 !m-t#3 g=1"))
	}
	s.Do(9, 1, freeze("", "f", 1))
	wantAnswer(t, "P10.1: Merge of a frozen one and a live one", s.Do(9, 1, merge("", "m", gen+1, "f")), code(api.ErrNone))
	s.Do(9, 1, freeze("f", "m", 2))
	wantAnswer(t, "P10.1: Merge of two frozen ones", s.Do(9, 1, merge("", "m", gen+2, "f")), code(api.ErrNone))
}

// TestMergeOfTooMuch: ErrFull above MaxRows together, and both stay.
func TestMergeOfTooMuch(t *testing.T) {
	s := made(t, tab("", "m", 1), tab("m", "", 2))
	for i := range api.MaxRows / 2 {
		s.Do(1, i+1, add(fmt.Sprintf("a%02d", i), 1))
		s.Do(1, i+1, add(fmt.Sprintf("n%02d", i), 1))
	}
	s.Do(1, 100, add("nn", 1))
	was := picture(s)
	wantAnswer(t, "P10.1: Merge of too much", s.Do(9, 1, merge("", "", 3, "m")), code(api.ErrFull))
	wantPicture(t, "P10.1: Merge of too much", s, strings.Replace(was, "2", "3", 1))
	s.Do(1, 101, drop("nn"))
	wantAnswer(t, "P10.1: Last's Code, though there is room", s.Do(9, 1, merge("", "", 3, "m")), code(api.ErrFull))
	wantAnswer(t, "P10.1: Merge of MaxRows", s.Do(9, 1, merge("", "", 4, "m")), code(api.OK))
	if len(s.Live()) != 1 || len(s.Rows()) != api.MaxRows {
		t.Errorf("P10.1: Merge of MaxRows: %s", picture(s))
	}
}

// TestMergeAmongMany: it needs no room.
func TestMergeAmongMany(t *testing.T) {
	s := made(t, many(api.MaxTablets, 1)...)
	wantAnswer(t, "P10.1: Merge among MaxTablets", s.Do(9, 1, merge("03", "05", 2, "04")), code(api.OK))
	if len(s.Live()) != api.MaxTablets-1 {
		t.Errorf("P10.1: Merge among MaxTablets: %s", picture(s))
	}
}

// TestSplitThenMerge: all of it is as it was, but for the Gen.
func TestSplitThenMerge(t *testing.T) {
	s := three(t)
	s.Do(9, 1, split("", "c", 6, "b"))
	s.Do(9, 1, merge("", "c", 7, "b"))
	wantPicture(t, "P10.1: Split, then Merge", s, "7 "+strings.Replace(before, "#1", "#7", 1))
	wantAnswer(t, "P10.1: the cache behind Split and Merge", s.Do(1, 1, get("a")), code(api.OK))
}
