package tablet_test

import (
	"fmt"
	"math"
	"slices"
	"strings"
	"testing"

	"wardmote/api"
	"wardmote/cmd"
	"wardmote/tablet"
)

// The greatest Gen, and the greatest number of a request.
const greatest = 1 << 30

func of(lo, hi string) api.Span { return api.Span{Lo: lo, Hi: hi} }

func tab(lo, hi string, gen int) api.Tablet { return api.Tablet{Span: of(lo, hi), Gen: gen} }

func number(x float64) api.Value { return api.Value{Kind: api.Number, N: x} }

func text(s string) api.Value { return api.Value{Kind: api.Text, B: []byte(s)} }

func op(o api.Op) api.Command { return api.Command{Kind: api.Operate, Op: o} }

func get(name string) api.Command { return op(api.Op{Kind: api.Get, Row: name}) }

func scan(lo, hi string, most int) api.Command {
	return op(api.Op{Kind: api.Scan, Row: lo, Hi: hi, Most: most})
}

func mutate(name string, l ...api.Change) api.Command {
	return op(api.Op{Kind: api.Mutate, Row: name, L: l})
}

// when is c with a condition.
func when(cond api.Cond, c api.Command) api.Command {
	c.Op.Cond = cond
	return c
}

func plus(col string, t int64, x float64) api.Change {
	return api.Change{Kind: api.Add, Col: col, Time: t, V: number(x)}
}

func with(col string, t int64, v api.Value) api.Change {
	return api.Change{Kind: api.Put, Col: col, Time: t, V: v}
}

// add adds x to the column c of a row.
func add(name string, x float64) api.Command { return mutate(name, plus("c", 1, x)) }

func drop(name string) api.Command { return mutate(name, api.Change{Kind: api.DropRow}) }

func freeze(lo, hi string, gen int) api.Command {
	return api.Command{Kind: api.Freeze, Span: of(lo, hi), Gen: gen}
}

func retire(lo, hi string, gen int) api.Command {
	return api.Command{Kind: api.Retire, Span: of(lo, hi), Gen: gen}
}

func install(lo, hi string, gen int, state []byte) api.Command {
	return api.Command{Kind: api.Install, Span: of(lo, hi), Gen: gen, State: state}
}

func split(lo, hi string, gen int, at string) api.Command {
	return api.Command{Kind: api.Split, Span: of(lo, hi), Gen: gen, At: at}
}

func merge(lo, hi string, gen int, at string) api.Command {
	return api.Command{Kind: api.Merge, Span: of(lo, hi), Gen: gen, At: at}
}

// code is an answer of that Code alone.
func code(e api.Errno) api.Answer { return api.Answer{Code: e} }

// one is a row with that number in column c, as add leaves it.
func one(name string, x float64) api.Named {
	return api.Named{Name: name, R: api.Row{L: []api.Column{{Name: "c", L: []api.Version{{Time: 1, V: number(x)}}}}}}
}

// rowsOf is an answer of rows.
func rowsOf(l ...api.Named) api.Answer { return api.Answer{Rows: l} }

// scanned is an answer of a scan.
func scanned(lo, hi string, l ...api.Named) api.Answer {
	return api.Answer{Rows: l, Span: of(lo, hi)}
}

func made(t *testing.T, l ...api.Tablet) *tablet.Store {
	t.Helper()
	s := tablet.New(l...)
	if s == nil {
		t.Fatalf("P10.1: New(%v): nil", l)
	}
	return s
}

// many are n tablets that touch, by rising Los, of these Gens in turn.
func many(n int, gens ...int) []api.Tablet {
	var l []api.Tablet
	for i := range n {
		l = append(l, tab(fmt.Sprintf("%02d", i), fmt.Sprintf("%02d", i+1), gens[i%len(gens)]))
	}
	return l
}

// picture is what a store tells of itself, but for its caches.
func picture(s *tablet.Store) string {
	b := &strings.Builder{}
	fmt.Fprint(b, s.Last())
	for _, x := range s.Live() {
		fmt.Fprintf(b, " %s-%s#%d", x.Span.Lo, x.Span.Hi, x.Gen)
	}
	for _, x := range s.Frozen() {
		fmt.Fprintf(b, " !%s-%s#%d", x.Span.Lo, x.Span.Hi, x.Gen)
	}
	for _, x := range s.Rows() {
		fmt.Fprint(b, " ", x.Name, "=", cells(x.R))
	}
	return b.String()
}

// cells is a row by plain signs: of one with a single number that number.
func cells(r api.Row) string {
	if len(r.L) == 1 && len(r.L[0].L) == 1 && r.L[0].L[0].V.Kind == api.Number {
		return fmt.Sprint(r.L[0].L[0].V.N)
	}
	b := &strings.Builder{}
	for _, c := range r.L {
		fmt.Fprint(b, "(", c.Name)
		for _, v := range c.L {
			fmt.Fprintf(b, " %d:%d,%q,%v", v.Time, v.V.Kind, v.V.B, v.V.N)
		}
		b.WriteString(")")
	}
	return b.String()
}

func wantPicture(t *testing.T, what string, s *tablet.Store, want string) {
	t.Helper()
	if got := picture(s); got != want {
		t.Errorf("%s: the store is %s, want %s", what, got, want)
	}
}

func wantAnswer(t *testing.T, what string, got, want api.Answer) {
	t.Helper()
	if !cmd.SameAnswer(got, want) {
		t.Errorf("%s: %+v, want %+v", what, got, want)
	}
}

// wantSaved asks that the store is, with all that it does not show, as it was.
func wantSaved(t *testing.T, what string, s *tablet.Store, was []byte) {
	t.Helper()
	if string(s.Save()) != string(was) {
		t.Errorf("%s: the store has changed: %s", what, picture(s))
	}
}

// step is a command, what it is to tell, and what the store is then.
type step struct {
	what        string
	client, seq int
	c           api.Command
	want        api.Answer
	then        string
}

func run(t *testing.T, promise string, s *tablet.Store, l ...step) {
	t.Helper()
	for i, x := range l {
		what := fmt.Sprintf("%s: step %d, %s", promise, i, x.what)
		wantAnswer(t, what, s.Do(x.client, x.seq, x.c), x.want)
		wantPicture(t, what, s, x.then)
	}
}

func TestNewOfNone(t *testing.T) {
	for _, s := range []*tablet.Store{made(t), made(t, []api.Tablet{}...)} {
		if s.Last() != 0 || len(s.Live()) != 0 || len(s.Frozen()) != 0 || len(s.Rows()) != 0 {
			t.Errorf("P10.1: New of none: %s", picture(s))
		}
		wantAnswer(t, "P10.1: New of none", s.Do(1, 1, get("a")), code(api.ErrWrong))
	}
}

func TestNew(t *testing.T) {
	long := strings.Repeat("x", api.MaxName)
	for _, x := range []struct {
		what string
		l    []api.Tablet
		want string
	}{
		{"all names", []api.Tablet{tab("", "", 1)}, "1 -#1"},
		{"a group, which is not kept", []api.Tablet{{Span: of("", ""), Group: 7, Gen: 2}}, "2 -#2"},
		{"two that touch", []api.Tablet{tab("", "m", 1), tab("m", "", 1)}, "1 -m#1 m-#1"},
		{"two that touch, turned round", []api.Tablet{tab("m", "", 1), tab("", "m", 2)}, "2 -m#2 m-#1"},
		{"gaps", []api.Tablet{tab("x", "y", 3), tab("a", "b", 4), tab("f", "g", 5)}, "5 a-b#4 f-g#5 x-y#3"},
		{"the greatest Gen first", []api.Tablet{tab("a", "b", 9), tab("b", "c", 3), tab("c", "d", 4)}, "9 a-b#9 b-c#3 c-d#4"},
		{"the greatest Gen last", []api.Tablet{tab("a", "b", 3), tab("b", "c", 4), tab("c", "d", 9)}, "9 a-b#3 b-c#4 c-d#9"},
		{"the lowest Gen", []api.Tablet{tab("a", "", 1)}, "1 a-#1"},
		{"the greatest Gen of all", []api.Tablet{tab("a", "", greatest)}, fmt.Sprint(greatest, " a-#", greatest)},
		{"ends of MaxName bytes", []api.Tablet{tab("a", long, 1), tab(long, "", 1)}, "1 a-" + long + "#1 " + long + "-#1"},
	} {
		s := made(t, x.l...)
		wantPicture(t, "P10.1: New: "+x.what, s, x.want)
		for _, y := range s.Live() {
			if y.Group != 0 {
				t.Errorf("P10.1: New: %s: Group %d", x.what, y.Group)
			}
		}
	}
}

func TestNewOfMaxTablets(t *testing.T) {
	l := many(api.MaxTablets+1, 5, 1, 3)
	s := made(t, l[:api.MaxTablets]...)
	if !slices.Equal(s.Live(), l[:api.MaxTablets]) || len(s.Frozen()) != 0 || s.Last() != 5 {
		t.Errorf("P10.1: New of MaxTablets: %s", picture(s))
	}
	slices.Reverse(l)
	slices.Reverse(l[1:])
	if !slices.IsSortedFunc(made(t, l[1:]...).Live(), func(a, b api.Tablet) int { return strings.Compare(a.Span.Lo, b.Span.Lo) }) {
		t.Error("P10.1: Live is not by rising Lo")
	}
	if tablet.New(l...) != nil {
		t.Error("P10.1: New of one above MaxTablets: not nil")
	}
}

func TestNewRefuses(t *testing.T) {
	tooLong := strings.Repeat("x", api.MaxName+1)
	for i, l := range [][]api.Tablet{
		{tab("", "", 0)}, {tab("", "", -1)}, {tab("", "", greatest+1)}, {tab("", "", math.MinInt)}, {tab("", "", math.MaxInt)},
		{tab("a", "b", 1), tab("b", "c", 0)}, {tab("a", "b", greatest+1), tab("b", "c", 1)},
		{tab("", "", 1), tab("", "", 2)}, {tab("", "", 1), tab("a", "b", 2)}, {tab("a", "c", 1), tab("b", "", 1)},
		{tab("b", "", 1), tab("a", "c", 1)}, {tab("a", "b", 1), tab("a", "b", 1)}, {tab("a", "d", 1), tab("b", "c", 1)},
		{tab("x", "y", 1), tab("a", "c", 1), tab("f", "g", 1), tab("b", "d", 1)},
		{tab("b", "a", 1)}, {tab("a", "a", 1)}, {tab("a", "b", 1), tab("d", "c", 1)}, {tab(tooLong, "", 1)}, {tab("", tooLong, 1)},
		{{}},
	} {
		if tablet.New(l...) != nil {
			t.Errorf("P10.1: New, case %d, %v: not nil", i, l)
		}
	}
}

// TestNewOfLast: the Code of Last is OK, and its Gen is done with.
func TestNewOfLast(t *testing.T) {
	for _, c := range []api.Command{split("", "m", 4, "f"), merge("", "", 4, "m"), install("", "m", 4, nil), split("x", "", 4, "z")} {
		s := made(t, tab("", "m", 4), tab("m", "", 2))
		was := s.Save()
		wantAnswer(t, "P10.1: New: Last's Code", s.Do(1, 1, c), code(api.OK))
		wantSaved(t, "P10.1: New: Last's Code", s, was)
		c.Gen = 3
		wantAnswer(t, "P10.1: New: below Last", s.Do(1, 1, c), code(api.ErrOld))
	}
}

// TestNewTabletsAreByThemselves: of two tablets each has a table and a cache of its own, which are empty.
func TestNewTabletsAreByThemselves(t *testing.T) {
	s := made(t, tab("", "m", 1), tab("m", "", 1))
	run(t, "P10.1", s,
		step{"a row of the first", 1, 5, add("a", 1), code(api.OK), "1 -m#1 m-#1 a=1"},
		step{"the same number in the second", 1, 5, add("n", 2), code(api.OK), "1 -m#1 m-#1 a=1 n=2"},
		step{"a lower number in the second", 1, 4, get("n"), code(api.ErrOld), "1 -m#1 m-#1 a=1 n=2"},
		step{"a greater number in the second", 1, 6, get("n"), rowsOf(one("n", 2)), "1 -m#1 m-#1 a=1 n=2"},
		step{"which the first has not seen", 1, 6, get("a"), rowsOf(one("a", 1)), "1 -m#1 m-#1 a=1 n=2"},
	)
}

// TestRows: of the live tablets alone, rising, all of them, though one Range tells at most MaxScan.
func TestRows(t *testing.T) {
	s := made(t, tab("m", "t", 1), tab("a", "m", 2), tab("t", "", 3))
	var want []string
	for _, first := range []string{"b", "n", "u"} {
		for i := range api.MaxRows {
			name := fmt.Sprintf("%s%02d", first, (i*7)%api.MaxRows)
			wantAnswer(t, "P10.1: Rows", s.Do(1, len(want)+1, add(name, float64(i))), code(api.OK))
			want = append(want, name)
		}
	}
	slices.Sort(want)
	wantNames(t, "P10.1: Rows", s, want)
	s.Do(9, 9, freeze("m", "t", 1))
	wantNames(t, "P10.1: Rows with a frozen tablet", s, slices.Concat(want[:api.MaxRows], want[2*api.MaxRows:]))
	s.Do(9, 9, freeze("a", "m", 2))
	s.Do(9, 9, freeze("t", "", 3))
	wantNames(t, "P10.1: Rows with none but frozen tablets", s, nil)
}

func wantNames(t *testing.T, what string, s *tablet.Store, want []string) {
	t.Helper()
	var got []string
	for _, x := range s.Rows() {
		got = append(got, x.Name)
	}
	if !slices.Equal(got, want) {
		t.Errorf("%s: %q, want %q", what, got, want)
	}
}

// TestLiveAndFrozen: each by rising Lo, whatever was frozen first.
func TestLiveAndFrozen(t *testing.T) {
	s := made(t, tab("d", "e", 4), tab("a", "b", 3), tab("c", "d", 2), tab("b", "c", 1))
	wantPicture(t, "P10.1: none is frozen", s, "4 a-b#3 b-c#1 c-d#2 d-e#4")
	s.Do(1, 1, freeze("d", "e", 4))
	wantPicture(t, "P10.1: one is frozen", s, "4 a-b#3 b-c#1 c-d#2 !d-e#4")
	s.Do(1, 1, freeze("b", "c", 1))
	wantPicture(t, "P10.1: two are frozen", s, "4 a-b#3 c-d#2 !b-c#1 !d-e#4")
	if !slices.Equal(s.Frozen(), []api.Tablet{tab("b", "c", 1), tab("d", "e", 4)}) {
		t.Errorf("P10.1: Frozen: %v", s.Frozen())
	}
}

// TestOtherKinds: ErrKind, whatever else is in the command, and nothing is changed.
func TestOtherKinds(t *testing.T) {
	for _, kind := range []int{api.Locate, api.Plan, api.Publish, 0, -1, api.Nothing + 1, 99, 256 + api.Operate, math.MinInt, math.MaxInt} {
		for _, c := range []api.Command{{}, get("a"), freeze("", "m", 1), retire("m", "", 2), split("", "m", 9, "a"), {Do: 9, Gen: 5, At: strings.Repeat("x", 17)}} {
			s := busy(t)
			was := s.Save()
			c.Kind = kind
			wantAnswer(t, fmt.Sprintf("P10.1: Kind %d", kind), s.Do(7, 1, c), code(api.ErrKind))
			wantSaved(t, fmt.Sprintf("P10.1: Kind %d", kind), s, was)
		}
	}
}

// busy is a store with a live and a frozen tablet, rows in both, and requests that were told.
func busy(t *testing.T) *tablet.Store {
	t.Helper()
	s := made(t, tab("", "m", 1), tab("m", "", 2))
	s.Do(1, 1, add("a", 1))
	s.Do(1, 2, get("a"))
	s.Do(2, 5, add("n", 2))
	s.Do(3, 1, scan("n", "", 3))
	s.Do(9, 1, freeze("m", "", 2))
	wantPicture(t, "P10.1: a store that the tests begin with", s, "2 -m#1 !m-#2 a=1")
	return s
}

// TestNotRight: ErrArg of commands that are not cmd.Right, and nothing is changed, neither Last nor a cache.
func TestNotRight(t *testing.T) {
	tooLong := strings.Repeat("x", api.MaxName+1)
	for i, c := range []api.Command{
		op(api.Op{}), get(""), get(tooLong), op(api.Op{Kind: 4, Row: "a"}), mutate("a"), mutate("", plus("c", 1, 1)),
		mutate("a", slices.Repeat([]api.Change{plus("c", 1, 1)}, api.MaxChanges+1)...), mutate("a", api.Change{}), mutate("a", plus("", 1, 1)), mutate("a", plus("c", -1, 1)),
		when(api.Cond{Has: true}, add("a", 1)), scan("a", "", 0), scan("a", "", api.MaxScan+1), scan("b", "a", 1), scan("a", "a", 1), scan(tooLong, "", 1),
		freeze("", "m", 0), freeze("", "m", greatest+1), freeze("m", "a", 1), freeze("", tooLong, 1),
		retire("m", "", 0), retire("m", "", greatest+1), retire("m", "a", 2),
		install("x", "", 0, nil), install("x", "", greatest+1, nil), install("x", "a", 9, nil), install("x", "", 9, make([]byte, api.MaxBytes+1)),
		split("", "m", 0, "a"), split("", "m", greatest+1, "a"), split("", "m", 9, ""), split("", "m", 9, "m"), split("", "m", 9, "z"), split("m", "a", 9, "f"), split("", "", 9, tooLong),
		merge("", "", 0, "m"), merge("", "", greatest+1, "m"), merge("", "", 9, ""), merge("", "m", 9, "m"), merge("m", "a", 9, "f"),
	} {
		s := busy(t)
		was := s.Save()
		wantAnswer(t, fmt.Sprintf("P10.1: not Right, case %d", i), s.Do(7, 1, c), code(api.ErrArg))
		wantSaved(t, fmt.Sprintf("P10.1: not Right, case %d", i), s, was)
		wantAnswer(t, "P10.1: a number that was not used up", s.Do(7, 1, get("a")), rowsOf(one("a", 1)))
	}
}

func TestNothing(t *testing.T) {
	s := busy(t)
	was := s.Save()
	for _, x := range [][2]int{{1, 1}, {7, 1}, {-1, 0}, {256, greatest + 1}} {
		c := freeze("", "m", 1)
		c.Kind = api.Nothing
		wantAnswer(t, "P10.1: Nothing", s.Do(x[0], x[1], c), code(api.OK))
		wantSaved(t, "P10.1: Nothing", s, was)
	}
}

// TestWhoAsksDoesNotMatter: but of Operate.
func TestWhoAsksDoesNotMatter(t *testing.T) {
	for _, who := range [][2]int{{1, 1}, {-1, 0}, {256, -5}, {3, greatest + 1}, {math.MinInt, math.MaxInt}} {
		s := made(t, tab("", "", 1))
		wantAnswer(t, "P10.1: Split", s.Do(who[0], who[1], split("", "", 2, "m")), code(api.OK))
		wantAnswer(t, "P10.1: Merge", s.Do(who[0], who[1], merge("", "", 3, "m")), code(api.OK))
		state := s.Do(who[0], who[1], freeze("", "", 3)).State
		wantAnswer(t, "P10.1: Install", s.Do(who[0], who[1], install("", "", 4, state)), code(api.OK))
		s.Do(who[0], who[1], freeze("", "", 4))
		wantAnswer(t, "P10.1: Retire", s.Do(who[0], who[1], retire("", "", 4)), code(api.OK))
		wantPicture(t, "P10.1: behind all of these", s, "4")
	}
}
