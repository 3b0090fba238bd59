package tablet_test

import (
	"fmt"
	"math"
	"slices"
	"strings"
	"testing"

	"wardmote/api"
	"wardmote/cmd"
	"wardmote/tablet"
)

// TestHolder: the tablet whose span has the row, and ErrWrong where there is none.
func TestHolder(t *testing.T) {
	for _, x := range []struct {
		name  string
		wrong bool
	}{
		{"a", true}, {"azzz", true}, {"b", false}, {"b\x00", false}, {"czz", false}, {"d", true}, {"e", true},
		{"f", false}, {"fzz", false}, {"g", false}, {"z\xff", false}, {strings.Repeat("\xff", api.MaxName), false},
	} {
		s := made(t, tab("b", "d", 1), tab("f", "g", 1), tab("g", "", 1))
		was := s.Save()
		want := code(api.OK)
		if x.wrong {
			want = code(api.ErrWrong)
		}
		wantAnswer(t, fmt.Sprintf("P10.1: Mutate of row %q", x.name), s.Do(1, 1, add(x.name, 1)), want)
		if x.wrong {
			wantSaved(t, fmt.Sprintf("P10.1: ErrWrong of row %q", x.name), s, was)
		} else {
			wantNames(t, fmt.Sprintf("P10.1: Mutate of row %q", x.name), s, []string{x.name})
		}
		fresh := made(t, tab("b", "d", 1), tab("f", "g", 1), tab("g", "", 1))
		wantAnswer(t, fmt.Sprintf("P10.1: Get of row %q", x.name), fresh.Do(1, 1, get(x.name)), want)
	}
	s := made(t, tab("b", "d", 1))
	wantAnswer(t, "P10.1: Scan from ahead of the tablet", s.Do(1, 1, scan("", "", 5)), code(api.ErrWrong))
	wantAnswer(t, "P10.1: Scan from behind the tablet", s.Do(1, 1, scan("d", "", 5)), code(api.ErrWrong))
	wantAnswer(t, "P10.1: a number that ErrWrong did not use up", s.Do(1, 1, scan("c", "", 5)), scanned("c", "d"))
}

// TestWrongIsFirst: a client that is none, a number that is none, asked of a row of no tablet.
func TestWrongIsFirst(t *testing.T) {
	s := made(t, tab("b", "d", 1))
	for _, who := range [][2]int{{1, 1}, {1, 0}, {-1, 1}, {256, 1}, {1, greatest + 1}} {
		wantAnswer(t, "P10.1: ErrWrong first", s.Do(who[0], who[1], get("a")), code(api.ErrWrong))
	}
}

// TestBesideAFrozenTablet: names of live and of frozen tablets that touch.
func TestBesideAFrozenTablet(t *testing.T) {
	s := made(t, tab("a", "b", 1), tab("b", "c", 1), tab("c", "d", 1))
	s.Do(9, 1, freeze("b", "c", 1))
	for i, x := range []struct {
		name string
		want api.Errno
	}{{"a", api.OK}, {"azz", api.OK}, {"b", api.ErrBusy}, {"bzz", api.ErrBusy}, {"c", api.OK}, {"czz", api.OK}, {"d", api.ErrWrong}} {
		wantAnswer(t, "P10.1: Get of row "+x.name, s.Do(1, i+1, get(x.name)), code(x.want))
		wantAnswer(t, "P10.1: Mutate of row "+x.name, s.Do(2, i+1, add(x.name, 1)), code(x.want))
	}
}

// TestAgain: what was told is told again, whatever is asked and whatever was done since.
func TestAgain(t *testing.T) {
	for _, x := range []struct {
		c    api.Command
		want api.Answer
	}{
		{add("b", 5), code(api.OK)},
		{get("b"), rowsOf(one("b", 5))},
		{get("no"), code(api.OK)},
		{scan("", "", 1), scanned("", "b", one("a", 1))},
		{scan("a", "", 9), scanned("a", "", one("a", 1), one("b", 5))},
		{when(api.Cond{Has: true, Col: "c"}, add("a", 1)), code(api.ErrCond)},
		{mutate("t", with("c", 1, text("t")), plus("c", 2, 1)), code(api.ErrKind)},
	} {
		s := made(t, tab("", "", 1))
		s.Do(200, 1, add("a", 1))
		s.Do(200, 2, add("b", 5))
		wantAnswer(t, "P10.1: the first time", s.Do(1, 5, x.c), x.want)
		was := s.Save()
		for _, c := range []api.Command{x.c, add("b", 100), get("zz"), scan("", "", 16), drop("a")} {
			wantAnswer(t, "P10.1: Again", s.Do(1, 5, c), x.want)
			wantSaved(t, "P10.1: Again", s, was)
		}
		s.Do(2, 1, drop("a"))
		s.Do(2, 2, drop("b"))
		wantAnswer(t, "P10.1: Again, behind another client's", s.Do(1, 5, x.c), x.want)
		wantAnswer(t, "P10.1: a number below", s.Do(1, 4, x.c), code(api.ErrOld))
		wantAnswer(t, "P10.1: the next number", s.Do(1, 6, get("a")), code(api.OK))
		wantAnswer(t, "P10.1: its number is another one then", s.Do(1, 5, x.c), code(api.ErrOld))
	}
}

// TestOld: numbers below the client's, numbers and clients that are none; nothing is changed.
func TestOld(t *testing.T) {
	for _, frozen := range []bool{false, true} {
		s := made(t, tab("", "", 1))
		s.Do(1, 5, add("a", 1))
		s.Do(0, greatest, get("a"))
		if frozen {
			s.Do(9, 1, freeze("", "", 1))
		}
		was := s.Save()
		for _, x := range [][2]int{
			{1, 4}, {1, 1}, {1, 0}, {1, -1}, {1, math.MinInt}, {2, 0}, {2, -1}, {0, greatest - 1}, {0, 1},
			{-1, 1}, {-1, 5}, {-1, 0}, {256, 1}, {256, greatest}, {257, 5}, {-255, 5}, {math.MinInt, 1}, {math.MaxInt, 1},
			{1, greatest + 1}, {2, greatest + 1}, {0, greatest + 1}, {2, math.MaxInt}, {-1, greatest + 1}, {256, 0},
		} {
			for _, c := range []api.Command{get("a"), add("a", 1), scan("", "", 1)} {
				what := fmt.Sprintf("P10.1: client %d, number %d, frozen %v", x[0], x[1], frozen)
				wantAnswer(t, what, s.Do(x[0], x[1], c), code(api.ErrOld))
				wantSaved(t, what, s, was)
			}
		}
	}
}

// TestWhoMayAsk: the edges of clients and numbers.
func TestWhoMayAsk(t *testing.T) {
	s := made(t, tab("", "", 1))
	sum := 0.0
	for _, x := range [][2]int{{0, 1}, {0, 2}, {255, 1}, {255, greatest - 1}, {255, greatest}, {7, greatest}, {8, 1000}} {
		wantAnswer(t, fmt.Sprintf("P10.1: client %d, number %d", x[0], x[1]), s.Do(x[0], x[1], add("a", 1)), code(api.OK))
		sum++
		wantPicture(t, "P10.1: done once", s, fmt.Sprint("1 -#1 a=", sum))
		wantAnswer(t, "P10.1: Again", s.Do(x[0], x[1], get("a")), code(api.OK))
	}
}

// TestFrozen: ErrBusy of what is Fresh, which is not kept; Again and Old as they are.
func TestFrozen(t *testing.T) {
	s := made(t, tab("", "", 1))
	s.Do(1, 3, add("a", 1))
	s.Do(2, 4, get("a"))
	state := s.Do(9, 1, freeze("", "", 1)).State
	was := s.Save()
	for _, x := range []struct {
		client, seq int
		want        api.Answer
	}{
		{1, 3, code(api.OK)}, {1, 2, code(api.ErrOld)}, {1, 4, code(api.ErrBusy)}, {2, 4, rowsOf(one("a", 1))}, {2, 3, code(api.ErrOld)}, {2, 5, code(api.ErrBusy)},
		{3, 1, code(api.ErrBusy)}, {3, greatest, code(api.ErrBusy)}, {3, greatest + 1, code(api.ErrOld)}, {-1, 1, code(api.ErrOld)}, {256, 1, code(api.ErrOld)}, {3, 0, code(api.ErrOld)},
	} {
		for _, c := range []api.Command{get("a"), add("a", 1), drop("a"), scan("a", "", 2), get("none"), when(api.Cond{Has: true, Col: "c"}, add("a", 1))} {
			what := fmt.Sprintf("P10.1: a frozen tablet, client %d, number %d", x.client, x.seq)
			wantAnswer(t, what, s.Do(x.client, x.seq, c), x.want)
			wantSaved(t, what, s, was)
		}
	}
	s.Do(9, 1, install("", "", 2, state))
	wantAnswer(t, "P10.1: a number that ErrBusy did not use up", s.Do(3, 1, add("a", 1)), code(api.OK))
	wantPicture(t, "P10.1: done when it is not frozen any more", s, "2 -#2 a=2")
}

func TestGet(t *testing.T) {
	s := made(t, tab("", "", 1))
	whole := []api.Change{with("a", 5, text("x")), with("a", 3, number(math.Inf(1))), with("b", 1, text("")), with("c", api.MaxTime, number(math.NaN())), with("d", 0, number(math.Copysign(0, -1)))}
	wantAnswer(t, "P10.1: Mutate", s.Do(1, 1, mutate("r", whole...)), code(api.OK))
	want := api.Row{L: []api.Column{
		{Name: "a", L: []api.Version{{Time: 5, V: text("x")}, {Time: 3, V: number(math.Inf(1))}}}, {Name: "b", L: []api.Version{{Time: 1, V: text("")}}},
		{Name: "c", L: []api.Version{{Time: api.MaxTime, V: number(math.NaN())}}}, {Name: "d", L: []api.Version{{Time: 0, V: number(math.Copysign(0, -1))}}},
	}}
	for range 2 {
		wantAnswer(t, "P10.1: Get, and Again", s.Do(1, 2, get("r")), rowsOf(api.Named{Name: "r", R: want}))
	}
	for i, name := range []string{"q", "s", "r\x00", "R"} {
		wantAnswer(t, "P10.1: Get of a row that is not there", s.Do(1, 3+i, get(name)), code(api.OK))
	}
	was := picture(s)
	s.Do(2, 1, get("r"))
	wantPicture(t, "P10.1: Get changes no row", s, was)
}

// mutated is a mutation of a store with the rows a=1 and t (a text), and what comes of it.
type mutated struct {
	what string
	c    api.Command
	want api.Errno
	then string
}

const begun = `a=1 t=(c 1:1,"x",0)`

func mutations() []mutated {
	has := func(v api.Value) api.Cond { return api.Cond{Has: true, Want: true, Col: "c", V: v} }
	none := api.Cond{Has: true, Col: "c"}
	other := api.Cond{Col: "c", V: number(9)}
	five := []api.Change{with("1", 1, number(1)), with("2", 1, number(1)), with("3", 1, number(1)), with("4", 1, number(1)), with("5", 1, number(1))}
	return []mutated{
		{"a new row", add("b", 2), api.OK, `a=1 b=2 t=(c 1:1,"x",0)`},
		{"a row that is there", add("a", 2), api.OK, `a=3 t=(c 1:1,"x",0)`},
		{"several changes, in order", mutate("a", plus("c", 1, 2), plus("c", 1, 3), with("d", 1, number(7)), api.Change{Kind: api.DropCol, Col: "d"}), api.OK, `a=6 t=(c 1:1,"x",0)`},
		{"a row that is dropped", drop("a"), api.OK, `t=(c 1:1,"x",0)`},
		{"the last column is dropped", mutate("t", api.Change{Kind: api.DropCol, Col: "c"}), api.OK, `a=1`},
		{"the last version is dropped", mutate("a", api.Change{Kind: api.Drop, Col: "c", Time: 1}), api.OK, `t=(c 1:1,"x",0)`},
		{"a version that is not there is dropped", mutate("a", api.Change{Kind: api.Drop, Col: "c", Time: 2}), api.OK, begun},
		{"a row that is not there is dropped", drop("b"), api.OK, begun},
		{"dropped, and put anew", mutate("t", api.Change{Kind: api.DropRow}, plus("c", 1, 4)), api.OK, `a=1 t=4`},
		{"a condition that holds", when(has(number(1)), add("a", 1)), api.OK, `a=2 t=(c 1:1,"x",0)`},
		{"a condition of a text that holds", when(has(text("x")), drop("t")), api.OK, `a=1`},
		{"a condition of none that holds", when(none, add("b", 1)), api.OK, `a=1 b=1 t=(c 1:1,"x",0)`},
		{"no condition, though its parts are there", when(other, add("a", 1)), api.OK, `a=2 t=(c 1:1,"x",0)`},
		{"a condition of another number", when(has(number(2)), add("a", 1)), api.ErrCond, begun},
		{"a condition of another kind", when(has(text("1")), drop("a")), api.ErrCond, begun},
		{"a condition of a row that is not there", when(has(number(1)), add("b", 1)), api.ErrCond, begun},
		{"a condition of none that does not hold", when(none, drop("a")), api.ErrCond, begun},
		{"a condition ahead of a refusal", when(none, mutate("t", plus("c", 2, 1))), api.ErrCond, begun},
		{"a sum with a text", mutate("t", plus("c", 2, 1)), api.ErrKind, begun},
		{"a sum with a text, behind other changes", mutate("t", with("d", 1, number(1)), plus("c", 2, 1)), api.ErrKind, begun},
		{"a fifth column", mutate("b", five...), api.ErrFull, begun},
		{"a fifth column of a row that is there", mutate("a", five[:4]...), api.ErrFull, begun},
		{"four columns, and one is dropped", mutate("b", append(five[:4:4], api.Change{Kind: api.DropRow})...), api.OK, begun},
	}
}

func withRows(t *testing.T) *tablet.Store {
	t.Helper()
	s := made(t, tab("", "", 1))
	s.Do(200, 1, add("a", 1))
	s.Do(200, 2, mutate("t", with("c", 1, text("x"))))
	wantPicture(t, "P10.1: a store that the tests begin with", s, "1 -#1 "+begun)
	return s
}

// TestMutate: what it tells, what there is then, and that it is kept, refused or not.
func TestMutate(t *testing.T) {
	for _, x := range mutations() {
		s := withRows(t)
		what := "P10.1: Mutate: " + x.what
		wantAnswer(t, what, s.Do(1, 7, x.c), code(x.want))
		wantPicture(t, what, s, strings.TrimSpace("1 -#1 "+x.then))
		was := s.Save()
		wantAnswer(t, what+", again", s.Do(1, 7, x.c), code(x.want))
		wantAnswer(t, what+", another request with this number", s.Do(1, 7, get("a")), code(x.want))
		wantAnswer(t, what+", a number below", s.Do(1, 6, get("a")), code(api.ErrOld))
		wantSaved(t, what, s, was)
	}
}

// TestRefusalsAreKept: those that follow the cache; where they would not come any more, they are told all the same.
func TestRefusalsAreKept(t *testing.T) {
	s := withRows(t)
	wanted := when(api.Cond{Has: true, Want: true, Col: "c", V: number(5)}, drop("a"))
	wantAnswer(t, "P10.1: ErrCond", s.Do(1, 1, wanted), code(api.ErrCond))
	summed := mutate("t", plus("c", 2, 1))
	wantAnswer(t, "P10.1: ErrKind", s.Do(2, 1, summed), code(api.ErrKind))
	s.Do(3, 1, add("a", 4))
	s.Do(3, 2, drop("t"))
	wantAnswer(t, "P10.1: ErrCond again, where it would hold", s.Do(1, 1, wanted), code(api.ErrCond))
	wantAnswer(t, "P10.1: ErrKind again, where the text is gone", s.Do(2, 1, summed), code(api.ErrKind))
	wantPicture(t, "P10.1: refusals that are kept", s, "1 -#1 a=5")
	wantAnswer(t, "P10.1: the next number", s.Do(1, 2, wanted), code(api.OK))
	wantAnswer(t, "P10.1: the next number", s.Do(2, 2, summed), code(api.OK))
	wantPicture(t, "P10.1: the next numbers", s, "1 -#1 t=1")
}

func TestMutateOfAFullTablet(t *testing.T) {
	s := made(t, tab("", "", 1))
	for i := range api.MaxRows {
		wantAnswer(t, "P10.1: rows up to MaxRows", s.Do(1, i+1, add(fmt.Sprintf("k%02d", i), 1)), code(api.OK))
	}
	full := picture(s)
	more := add("more", 1)
	wantAnswer(t, "P10.1: one above MaxRows", s.Do(2, 1, more), code(api.ErrFull))
	wantPicture(t, "P10.1: one above MaxRows", s, full)
	wantAnswer(t, "P10.1: a row that is there", s.Do(1, 50, add("k00", 0)), code(api.OK))
	wantAnswer(t, "P10.1: an empty row that is not there", s.Do(1, 51, drop("more")), code(api.OK))
	wantPicture(t, "P10.1: a full tablet", s, full)
	wantAnswer(t, "P10.1: one is dropped", s.Do(1, 52, drop("k31")), code(api.OK))
	wantAnswer(t, "P10.1: ErrFull is kept", s.Do(2, 1, more), code(api.ErrFull))
	wantAnswer(t, "P10.1: there is room", s.Do(2, 2, more), code(api.OK))
	wantPicture(t, "P10.1: there is room", s, strings.Replace(full, "k31", "more", 1))
}

func TestScan(t *testing.T) {
	rows := []api.Named{one("b", 1), one("c", 2), one("d", 3), one("e", 4)}
	fill := func(s *tablet.Store) {
		for i, x := range rows {
			s.Do(200, i+1, add(x.Name, float64(i+1)))
		}
	}
	for _, x := range []struct {
		what   string
		of     api.Span
		c      api.Command
		from   int
		to     int
		lo, hi string
	}{
		{"all", of("", ""), scan("", "", 9), 0, 4, "", ""},
		{"all, and no more than Most", of("", ""), scan("", "", 4), 0, 4, "", ""},
		{"one is left out", of("", ""), scan("", "", 3), 0, 3, "", "e"},
		{"three are left out", of("", ""), scan("", "", 1), 0, 1, "", "c"},
		{"from a name on", of("", ""), scan("c", "", 9), 1, 4, "c", ""},
		{"from between names", of("", ""), scan("cc", "", 9), 2, 4, "cc", ""},
		{"from a name on, and left out", of("", ""), scan("c", "", 2), 1, 3, "c", "e"},
		{"behind all", of("", ""), scan("f", "", 9), 4, 4, "f", ""},
		{"to a name", of("", ""), scan("", "d", 9), 0, 2, "", "d"},
		{"to a name, and left out", of("", ""), scan("", "d", 1), 0, 1, "", "c"},
		{"to a name, with all that are asked for", of("", ""), scan("", "d", 2), 0, 2, "", "d"},
		{"to between names", of("", ""), scan("b", "dd", 9), 0, 3, "b", "dd"},
		{"to behind all", of("", ""), scan("b", "zz", 9), 0, 4, "b", "zz"},
		{"nothing in it", of("", ""), scan("ba", "bz", 9), 1, 1, "ba", "bz"},
		{"the span's Hi, with an empty one", of("b", "f"), scan("b", "", 9), 0, 4, "b", "f"},
		{"the span's Hi, with a higher one", of("b", "f"), scan("c", "z", 9), 1, 4, "c", "f"},
		{"the span's Hi, with the same one", of("b", "f"), scan("c", "f", 9), 1, 4, "c", "f"},
		{"a Hi below the span's", of("b", "f"), scan("c", "e", 9), 1, 3, "c", "e"},
		{"a Hi below the span's, and left out", of("b", "f"), scan("c", "e", 1), 1, 2, "c", "d"},
		{"the span's Hi, and left out", of("b", "f"), scan("c", "", 1), 1, 2, "c", "d"},
		{"a Hi in a span without one", of("b", ""), scan("c", "e", 9), 1, 3, "c", "e"},
		{"no Hi in a span without one", of("b", ""), scan("c", "", 9), 1, 4, "c", ""},
	} {
		s := made(t, api.Tablet{Span: x.of, Gen: 1})
		fill(s)
		was := picture(s)
		for _, again := range []string{"", ", again"} {
			wantAnswer(t, "P10.1: Scan: "+x.what+again, s.Do(1, 1, x.c), scanned(x.lo, x.hi, rows[x.from:x.to]...))
		}
		wantPicture(t, "P10.1: Scan changes no row", s, was)
	}
}

// TestScanOfOneTablet: rows of others, beside it, are not told.
func TestScanOfOneTablet(t *testing.T) {
	s := made(t, tab("", "c", 1), tab("c", "e", 1), tab("e", "", 1))
	for i, name := range []string{"b", "c", "d", "e", "f"} {
		s.Do(1, i+1, add(name, 1))
	}
	wantAnswer(t, "P10.1: Scan of the first", s.Do(2, 1, scan("", "", 9)), scanned("", "c", one("b", 1)))
	wantAnswer(t, "P10.1: Scan of the second", s.Do(2, 2, scan("c", "f", 9)), scanned("c", "e", one("c", 1), one("d", 1)))
	wantAnswer(t, "P10.1: Scan of the last", s.Do(2, 3, scan("e", "", 9)), scanned("e", "", one("e", 1), one("f", 1)))
}

func TestScanOfMany(t *testing.T) {
	s := made(t, tab("", "", 1))
	var all []api.Named
	for i := range api.MaxRows {
		all = append(all, one(fmt.Sprintf("k%02d", i), float64(i)))
		s.Do(1, i+1, add(all[i].Name, float64(i)))
	}
	wantAnswer(t, "P10.1: Scan of MaxScan", s.Do(2, 1, scan("", "", api.MaxScan)), scanned("", "k16", all[:16]...))
	wantAnswer(t, "P10.1: Scan of the others", s.Do(2, 2, scan("k16", "", api.MaxScan)), scanned("k16", "", all[16:]...))
}

// long is a name of MaxName bytes.
func long(i int) string {
	return fmt.Sprintf("%02d%s", i, strings.Repeat("x", api.MaxName-2))
}

// great is a store of MaxRows rows, none of which could be greater.
func great(t *testing.T) *tablet.Store {
	t.Helper()
	s := made(t, tab("", "", 1))
	var cells []api.Change
	for i := range api.MaxColumns {
		for v := range api.Versions {
			cells = append(cells, with(long(i), int64(api.MaxTime-v), text(strings.Repeat("v", api.MaxText))))
		}
	}
	for i := range api.MaxRows {
		wantAnswer(t, "P10.1: great rows", s.Do(1, i+1, mutate(long(i), cells...)), code(api.OK))
	}
	return s
}

// TestEveryAnswerIsKept: what the cache tells is what cmd would write of it, of the greatest answer too.
func TestEveryAnswerIsKept(t *testing.T) {
	s := great(t)
	first := s.Do(2, 1, scan(long(0), long(31), api.MaxScan))
	if len(first.Rows) != api.MaxScan || first.Span.Hi != long(16) {
		t.Errorf("P10.1: a great Scan tells %d rows, and %q", len(first.Rows), first.Span.Hi)
	}
	s.Do(1, 100, drop(long(0)))
	again := s.Do(2, 1, get("a"))
	a, _ := cmd.EncodeAnswer(first)
	b, _ := cmd.EncodeAnswer(again)
	if !slices.Equal(a, b) || len(a) == 0 {
		t.Error("P10.1: a great answer is not told again as it was")
	}
}
