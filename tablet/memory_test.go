package tablet_test

import (
	"bytes"
	"fmt"
	"slices"
	"testing"

	"wardmote/api"
	"wardmote/tablet"
)

func fill[T any](l []T, x T) {
	for i := range l {
		l[i] = x
	}
}

// withRoom is l in memory of its own with room behind it, and x in that room.
func withRoom[T any](l []T, x T) []T {
	own := make([]T, len(l), len(l)+3)
	copy(own, l)
	fill(own[len(own):cap(own)], x)
	return own
}

// memory is one list: all of it with its room as a text, without what it leads to, and how to overwrite that.
type memory struct {
	show      func() string
	overwrite func()
}

// memoryOf keeps l's own header, so that it is found again whatever is done around it.
func memoryOf[T any](l []T, x T, show func(T) string) memory {
	all := l[:cap(l)]
	tell := func() string {
		s := ""
		for _, x := range all {
			s += show(x) + ";"
		}
		return s
	}
	return memory{tell, func() { fill(all, x) }}
}

func memoryOfBytes(b []byte) memory {
	return memoryOf(b, 'z', func(b byte) string { return string(rune(b)) })
}

func memoryOfTablets(l []api.Tablet) memory {
	return memoryOf(l, tab("x", "y", 99), func(x api.Tablet) string { return fmt.Sprint(x) })
}

// memoriesOf are all lists of these rows: themselves, their columns, versions and bytes.
func memoriesOf(l []api.Named) []memory {
	out := []memory{memoryOf(l, one("zzz", 99), func(x api.Named) string { return x.Name })}
	for _, x := range l {
		out = append(out, memoryOf(x.R.L, one("zzz", 99).R.L[0], func(c api.Column) string { return c.Name }))
		for _, c := range x.R.L {
			out = append(out, memoryOf(c.L, api.Version{Time: 99, V: text("zzz")}, func(v api.Version) string {
				return fmt.Sprint(v.Time, v.V.Kind, len(v.V.B), v.V.N)
			}))
			for _, v := range c.L {
				out = append(out, memoryOfBytes(v.V.B))
			}
		}
	}
	return out
}

func memoriesOfAnswer(a api.Answer) []memory {
	return append(memoriesOf(a.Rows), memoryOfBytes(a.State))
}

// bearing is a store with rows that bear texts and numbers, and with requests that were told.
func bearing(t *testing.T) *tablet.Store {
	t.Helper()
	s := made(t, tab("", "m", 1), tab("m", "", 2))
	for i, name := range []string{"a", "b", "c", "n"} {
		c := mutate(name, with("t", 2, text("xy")), with("t", 1, text("")), with("u", 1, number(float64(i))), with("v", 3, text(name)))
		wantAnswer(t, "P10.1: Mutate", s.Do(1, i+1, c), code(api.OK))
	}
	s.Do(2, 1, get("a"))
	s.Do(3, 1, scan("", "", 2))
	return s
}

// TestAnswersAreNewMemory: each list of an answer is overwritten, with its room: neither the store nor what it tells next is touched.
func TestAnswersAreNewMemory(t *testing.T) {
	for what, ask := range map[string]func(s *tablet.Store) []memory{
		"Get":                  func(s *tablet.Store) []memory { return memoriesOfAnswer(s.Do(7, 1, get("a"))) },
		"Get again":            func(s *tablet.Store) []memory { return memoriesOfAnswer(s.Do(2, 1, get("a"))) },
		"Scan":                 func(s *tablet.Store) []memory { return memoriesOfAnswer(s.Do(8, 1, scan("", "", 9))) },
		"Scan again":           func(s *tablet.Store) []memory { return memoriesOfAnswer(s.Do(3, 1, scan("", "", 9))) },
		"Freeze":               func(s *tablet.Store) []memory { return memoriesOfAnswer(s.Do(9, 1, freeze("", "m", 1))) },
		"Rows":                 func(s *tablet.Store) []memory { return memoriesOf(s.Rows()) },
		"Live":                 func(s *tablet.Store) []memory { return []memory{memoryOfTablets(s.Live())} },
		"Frozen":               func(s *tablet.Store) []memory { return []memory{memoryOfTablets(s.Frozen())} },
		"Save":                 func(s *tablet.Store) []memory { return []memory{memoryOfBytes(s.Save())} },
		"Rows of a loaded one": func(s *tablet.Store) []memory { o, _ := tablet.Load(s.Save()); return memoriesOf(o.Rows()) },
	} {
		left := bearing(t)
		n := len(ask(left))
		was, next := left.Save(), shown(ask(left))
		for i := range n {
			s := bearing(t)
			l := ask(s)
			others := slices.Delete(slices.Clone(l), i, i+1)
			told := shown(others)
			l[i].overwrite()
			if !slices.Equal(shown(others), told) {
				t.Errorf("R2: %s: two lists of one answer share memory", what)
			}
			wantSaved(t, "R2: "+what+": the answer was overwritten", s, was)
			if again := shown(ask(s)); !slices.Equal(again, next) {
				t.Errorf("R2: %s: told then: %q, want %q", what, again, next)
			}
		}
	}
}

func shown(l []memory) []string {
	var out []string
	for _, x := range l {
		out = append(out, x.show())
	}
	return out
}

// TestToldStays: the store goes on, and what it had told is as it was.
func TestToldStays(t *testing.T) {
	s := bearing(t)
	all := slices.Concat(memoriesOfAnswer(s.Do(2, 1, get("a"))), memoriesOfAnswer(s.Do(7, 1, scan("", "", 9))), memoriesOf(s.Rows()),
		[]memory{memoryOfTablets(s.Live()), memoryOfBytes(s.Save())})
	was := shown(all)
	for i, c := range []api.Command{drop("a"), mutate("b", with("t", 2, text("zz"))), add("0", 1), freeze("m", "", 2), split("", "m", 3, "b"), merge("", "m", 4, "b"), retire("m", "", 2)} {
		s.Do(1, 10+i, c)
	}
	if !slices.Equal(shown(all), was) {
		t.Error("R2: what was told hangs on the store")
	}
}

// TestWhatIsHandedInStays: neither it nor its room is changed, and nothing of it is kept.
func TestWhatIsHandedInStays(t *testing.T) {
	given := func(c *api.Command) []memory {
		c.Op.L = withRoom(c.Op.L, plus("room", 7, 7))
		for i, x := range c.Op.L {
			c.Op.L[i].V.B = withRoom(x.V.B, 'r')
		}
		c.Op.Cond.V.B = withRoom(c.Op.Cond.V.B, 'r')
		c.State = withRoom(c.State, 'r')
		l := []memory{memoryOfBytes(c.Op.Cond.V.B), memoryOfBytes(c.State)}
		for _, x := range c.Op.L {
			l = append(l, memoryOfBytes(x.V.B))
		}
		l = append(l, memoryOf(c.Op.L, plus("zzz", 9, 9), func(x api.Change) string { return fmt.Sprint(x.Kind, x.Col, x.Time, x.V.N) }))
		return l
	}
	state := frozenState(t, bearing(t), "", "m", 1)
	for what, c := range map[string]api.Command{
		"Mutate":              mutate("a", with("t", 9, text("new")), with("w", 1, text("w")), plus("u", 5, 1)),
		"Mutate, ErrCond":     when(api.Cond{Has: true, Want: true, Col: "t", V: text("no")}, mutate("a", with("t", 9, text("new")))),
		"Mutate, it holds":    when(api.Cond{Has: true, Want: true, Col: "t", V: text("xy")}, mutate("a", with("t", 9, text("new")))),
		"Mutate, ErrKind":     mutate("a", with("t", 9, text("new")), plus("t", 10, 1)),
		"Mutate, no tablet's": mutate("x", with("t", 9, text("new"))),
		"Install":             install("", "m", 7, state),
		"Install, ErrForm":    install("", "l", 7, state),
		"ErrArg":              mutate("a", with("t", -9, text("new"))),
		"ErrKind":             {Kind: 77, Op: api.Op{L: []api.Change{with("a", 1, text("b"))}}, State: []byte("state")},
	} {
		s := bearing(t)
		s.Do(9, 1, freeze("m", "", 2))
		if c.Kind == api.Install {
			s.Do(9, 1, freeze("", "m", 1))
		}
		l := given(&c)
		was := shown(l)
		s.Do(1, 50, c)
		if is := shown(l); !slices.Equal(is, was) {
			t.Errorf("R2: %s changes what is handed in: %q, was %q", what, is, was)
		}
		kept := s.Save()
		for _, x := range l {
			x.overwrite()
		}
		wantSaved(t, "R2: "+what+": what was handed in is overwritten", s, kept)
	}
}

// TestNewKeepsNothing: the list that New was given is overwritten.
func TestNewKeepsNothing(t *testing.T) {
	l := withRoom([]api.Tablet{tab("m", "", 2), tab("", "m", 1)}, tab("room", "", 7))
	was := slices.Clone(l[:cap(l)])
	s := made(t, l...)
	if !slices.Equal(l[:cap(l)], was) {
		t.Errorf("R2: New changes its list: %v", l[:cap(l)])
	}
	fill(l[:cap(l)], tab("q", "r", 9))
	wantPicture(t, "R2: New: the list is overwritten", s, "2 -m#1 m-#2")
}

// TestLoadKeepsNothing: the bytes that Load was given are overwritten.
func TestLoadKeepsNothing(t *testing.T) {
	b := withRoom(bearing(t).Save(), 'r')
	was := slices.Clone(b[:cap(b)])
	s := loaded(t, "bytes with room", b)
	if !bytes.Equal(b[:cap(b)], was) {
		t.Error("R2: Load changes its bytes")
	}
	fill(b[:cap(b)], 'z')
	wantSaved(t, "R2: Load: the bytes are overwritten", s, bearing(t).Save())
	wantAnswer(t, "R2: Load: a reply", s.Do(2, 1, get("b")), bearing(t).Do(2, 1, get("b")))
}

// TestNilAndZeroStores: nothing panics; a zero one is as one of no tablets.
func TestNilAndZeroStores(t *testing.T) {
	var none *tablet.Store
	if len(none.Live()) != 0 || len(none.Frozen()) != 0 || len(none.Rows()) != 0 || none.Last() != 0 || len(none.Save()) != 0 {
		t.Error("R1: a nil Store tells something")
	}
	for _, c := range []api.Command{{}, {Kind: api.Nothing}, get("a"), split("", "", 1, "m"), freeze("", "", 1)} {
		wantAnswer(t, "R1: a nil Store", none.Do(1, 1, c), code(api.ErrArg))
		wantAnswer(t, "R1: a zero Store", (&tablet.Store{}).Do(1, 1, c), made(t).Do(1, 1, c))
	}
	var zero tablet.Store
	wantPicture(t, "R1: a zero Store", &zero, "0")
	wantSaved(t, "R1: a zero Store", &zero, made(t).Save())
	zero.Do(1, 1, install("a", "", 1, emptyState("a", "")))
	wantPicture(t, "R1: a zero Store goes on", &zero, "1 a-#1")
}
