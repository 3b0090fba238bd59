package master_test

import (
	"bytes"
	"fmt"
	"strings"
	"testing"

	"wardmote/api"
	"wardmote/cmd"
	"wardmote/master"
)

// The bounds by themselves: neither api nor master is asked.
const (
	maxGroups  = 3
	maxTablets = 16
	greatest   = 1 << 30 // of Gens, and of the numbers of requests
	mostClient = 255
	longest    = "sixteen.bytes.ab"
	tooLong    = "seventeen.bytes.a"
	// maker is the client of plans that are not what a test asks of.
	maker = 200
)

func of(lo, hi string) api.Span { return api.Span{Lo: lo, Hi: hi} }

func tab(lo, hi string, group, gen int) api.Tablet {
	return api.Tablet{Span: of(lo, hi), Group: group, Gen: gen}
}

func planned(do int, at string, to int) api.Command {
	return api.Command{Kind: api.Plan, Do: do, At: at, To: to}
}

func move(at string, to int) api.Command { return planned(api.DoMove, at, to) }

func split(at string) api.Command { return planned(api.DoSplit, at, 0) }

func merge(at string) api.Command { return planned(api.DoMerge, at, 0) }

// which asks for the plan under way.
func which() api.Command { return api.Command{Kind: api.Plan} }

func publish(gen int) api.Command { return api.Command{Kind: api.Publish, Gen: gen} }

func leave(gen int) api.Command { return api.Command{Kind: api.Publish, Gen: gen, To: -1} }

func locate(at string) api.Command { return api.Command{Kind: api.Locate, At: at} }

// code is an answer of that Code alone.
func code(e api.Errno) api.Answer { return api.Answer{Code: e} }

// toMove, toSplit and toMerge are plans as they are told.
func toMove(at string, t api.Tablet, to, gen int) api.Answer {
	return api.Answer{Do: api.DoMove, At: at, Span: t.Span, Group: t.Group, To: to, Gen: gen, Old: t.Gen}
}

func toSplit(at string, t api.Tablet, gen int) api.Answer {
	return api.Answer{Do: api.DoSplit, At: at, Span: t.Span, Group: t.Group, Gen: gen, Old: t.Gen}
}

func toMerge(at string, s api.Span, group, gen int) api.Answer {
	return api.Answer{Do: api.DoMerge, At: at, Span: s, Group: group, Gen: gen}
}

func made(t *testing.T, groups int) *master.Master {
	t.Helper()
	m := master.New(groups)
	if m == nil {
		t.Fatalf("P12.1: New(%d): nil", groups)
	}
	return m
}

// carried carries these plans out, each by the next number of the client maker.
func carried(t *testing.T, m *master.Master, l ...api.Command) *master.Master {
	t.Helper()
	for _, c := range l {
		a := begun(t, m, c)
		wantAnswer(t, "P12.1: Publish", m.Do(maker, 1, publish(a.Gen)), code(api.OK))
	}
	return m
}

// begun is the plan that c asks for, by the next number of the client maker: the last Gen is as good as any.
func begun(t *testing.T, m *master.Master, c api.Command) api.Answer {
	t.Helper()
	a := m.Do(maker, lastGen(m), c)
	if a.Code != api.OK || a.Gen == 0 {
		t.Fatalf("P12.1: %+v: %s", c, show(a))
	}
	return a
}

// lastGen is the last Gen: above it a Publish is ErrNone. It asks a copy, so that m is left alone.
func lastGen(m *master.Master) int {
	x, ok := master.Load(m.Save())
	if !ok {
		return -1
	}
	gen := 1
	for x.Do(0, 0, publish(gen+1)).Code == api.OK {
		gen++
	}
	return gen
}

// arranged is a new master behind these plans.
func arranged(t *testing.T, groups int, l ...api.Command) *master.Master {
	t.Helper()
	return carried(t, made(t, groups), l...)
}

// full is a master of MaxTablets tablets, cut at a, b, c and so on.
func full(t *testing.T, groups int) *master.Master {
	t.Helper()
	m := made(t, groups)
	for i := range maxTablets - 1 {
		carried(t, m, split(string(rune('a'+i))))
	}
	return m
}

// show is an answer by plain signs, all fields that are not zero.
func show(a api.Answer) string {
	b := &strings.Builder{}
	fmt.Fprint(b, int(a.Code))
	for _, x := range []struct {
		what string
		is   bool
		v    any
	}{
		{"do", a.Do != 0, a.Do}, {"at", a.At != "", a.At}, {"span", a.Span != api.Span{}, a.Span.Lo + "-" + a.Span.Hi},
		{"@", a.Group != 0, a.Group}, {"#", a.Gen != 0, a.Gen}, {"to", a.To != 0, a.To}, {"old", a.Old != 0, a.Old},
		{"rows", len(a.Rows) > 0, len(a.Rows)}, {"state", len(a.State) > 0, a.State},
	} {
		if x.is {
			fmt.Fprintf(b, " %s %v", x.what, x.v)
		}
	}
	return b.String()
}

// showAll is a list of tablets by plain signs.
func showAll(l []api.Tablet) string {
	b := &strings.Builder{}
	for _, x := range l {
		fmt.Fprintf(b, "%s-%s@%d#%d ", x.Span.Lo, x.Span.Hi, x.Group, x.Gen)
	}
	return strings.TrimSpace(b.String())
}

// picture is what a master tells of itself, but for its cache and its last Gen.
func picture(m *master.Master) string {
	s := showAll(m.All())
	if a, ok := m.Pending(); ok {
		s += "; " + show(a)
	} else if show(a) != "0" {
		s += "; none, and yet " + show(a)
	}
	return s
}

func wantPicture(t *testing.T, what string, m *master.Master, want string) {
	t.Helper()
	if got := picture(m); got != want {
		t.Errorf("%s: %s, want %s", what, got, want)
	}
}

func wantAnswer(t *testing.T, what string, got, want api.Answer) {
	t.Helper()
	if !cmd.SameAnswer(got, want) {
		t.Errorf("%s: %s, want %s", what, show(got), show(want))
	}
}

func wantSaved(t *testing.T, what string, m *master.Master, want []byte) {
	t.Helper()
	if got := m.Save(); !bytes.Equal(got, want) {
		t.Errorf("%s: Save: % x, want % x", what, got, want)
	}
}

// wantNothing asks that c is told want, and changes nothing at all.
func wantNothing(t *testing.T, what string, m *master.Master, client, seq int, c api.Command, want api.Answer) {
	t.Helper()
	was, saved := picture(m), m.Save()
	wantAnswer(t, what, m.Do(client, seq, c), want)
	wantPicture(t, what+": behind it", m, was)
	wantSaved(t, what+": behind it", m, saved)
}

// wantKept asks that c is told want, and that this is told again for its number, and changes nothing but that.
func wantKept(t *testing.T, what string, m *master.Master, client, seq int, c api.Command, want api.Answer) {
	t.Helper()
	was, gen, saved := picture(m), lastGen(m), m.Save()
	wantAnswer(t, what, m.Do(client, seq, c), want)
	wantPicture(t, what+": behind it", m, was)
	if lastGen(m) != gen {
		t.Errorf("%s: the last Gen is %d, was %d", what, lastGen(m), gen)
	}
	if bytes.Equal(m.Save(), saved) {
		t.Errorf("%s: it is not kept", what)
	}
	wantNothing(t, what+": again", m, client, seq, another(c), want)
}

// another is another plan than c: what is told again hangs on the number alone.
func another(c api.Command) api.Command {
	c.At, c.To, c.Do = "q", 2, 1+c.Do%3
	return c
}

func TestNew(t *testing.T) {
	for _, n := range []int{-1 << 62, -1, 0, maxGroups + 1, 255, 256, 257, 1<<32 + 1, 1<<63 - 1} {
		if master.New(n) != nil {
			t.Errorf("P12.1: New(%d): not nil", n)
		}
	}
	for n := 1; n <= maxGroups; n++ {
		m := made(t, n)
		wantPicture(t, fmt.Sprint("P12.1: New(", n, ")"), m, "-@1#1")
		if a, ok := m.Pending(); ok || !cmd.SameAnswer(a, api.Answer{}) {
			t.Errorf("P12.1: New(%d): Pending: %s, %v", n, show(a), ok)
		}
		wantNothing(t, "P12.1: a new one: no plan is under way", m, 1, 1, which(), code(api.ErrNone))
		wantNothing(t, "P12.1: a new one: Gen 1 was there", m, 1, 1, publish(1), code(api.OK))
		wantNothing(t, "P12.1: a new one: the last Gen is 1", m, 1, 1, publish(2), code(api.ErrNone))
		for _, client := range []int{0, 1, mostClient} {
			wantKept(t, "P12.1: a new one: its cache is empty", m, client, 1, merge(""), code(api.ErrArg))
		}
	}
}

// TestNewByItself: New makes another one each time.
func TestNewByItself(t *testing.T) {
	a, b := made(t, 2), made(t, 2)
	carried(t, a, split("m"), move("z", 2))
	wantPicture(t, "P12.1: one of two", a, "-m@1#2 m-@2#3")
	wantPicture(t, "P12.1: the other one of two", b, "-@1#1")
	wantSaved(t, "P12.1: the other one of two", b, made(t, 2).Save())
}

// masters are of all kinds: new ones, with plans under way of each Do, behind each, with caches.
func masters(t *testing.T) map[string]*master.Master {
	t.Helper()
	under := func(c api.Command, l ...api.Command) *master.Master {
		m := arranged(t, 3, l...)
		begun(t, m, c)
		return m
	}
	given := arranged(t, 3, split("m"))
	gen := begun(t, given, move("m", 3)).Gen
	given.Do(1, 1, leave(gen))
	asked := arranged(t, 2, split("g"), split("p"), move("a", 2))
	asked.Do(0, 1, merge(""))
	begun(t, asked, merge("p"))
	asked.Do(1, 7, split("z"))
	asked.Do(mostClient, greatest, split("a"))
	return map[string]*master.Master{
		"new, of one group":     made(t, 1),
		"new, of three":         made(t, 3),
		"split":                 arranged(t, 1, split("m")),
		"moved":                 arranged(t, 3, move("", 3)),
		"merged":                arranged(t, 2, split("m"), merge("m")),
		"many":                  full(t, 2),
		"a move is under way":   under(move("z", 2), split("m")),
		"a split is under way":  under(split("z"), split("m"), move("a", 2)),
		"a merge is under way":  under(merge("m"), split("m"), split("s"), move("z", 2)),
		"a first plan":          under(split(longest)),
		"the last split":        under(split("\xff"), cuts("bcdefghijklmno")...),
		"given up":              given,
		"asked by many clients": asked,
	}
}

// cuts are splits at each letter.
func cuts(letters string) []api.Command {
	var l []api.Command
	for _, x := range letters {
		l = append(l, split(string(x)))
	}
	return l
}

// TestKindsThatAreNone: whatever else is in the command.
func TestKindsThatAreNone(t *testing.T) {
	for what, m := range masters(t) {
		for _, kind := range []int{-1 << 62, -1, 0, api.Operate, api.Freeze, api.Install, api.Retire, api.Split, api.Merge, api.Nothing + 1, 255, 256 + api.Plan, 1<<32 + api.Nothing, 1<<63 - 1} {
			for _, c := range []api.Command{
				{},
				{Op: api.Op{Kind: api.Get, Row: "a"}, Span: of("", ""), At: "m", Gen: 2, Do: api.DoSplit},
				{Op: api.Op{Kind: api.Get}, Span: of("b", "a"), Gen: -1, At: tooLong, To: -7, Do: -1, State: make([]byte, 9)},
			} {
				c.Kind = kind
				wantNothing(t, fmt.Sprintf("P12.1: %s: %+v", what, c), m, 1, 1<<20, c, code(api.ErrKind))
				wantNothing(t, fmt.Sprintf("P12.1: %s: %+v, of no client", what, c), m, -1, 0, c, code(api.ErrKind))
			}
		}
	}
}

// wrongOnes are of each Kind that a master does, and not Right.
func wrongOnes() []api.Command {
	l := []api.Command{
		locate(tooLong),
		publish(0), publish(-1), publish(greatest + 1), publish(1<<32 + 2), leave(0), leave(greatest + 1),
		{Kind: api.Publish, Gen: 1, To: 1}, {Kind: api.Publish, Gen: 1, To: -2}, {Kind: api.Publish, Gen: 9, To: 255}, {Kind: api.Publish, Gen: 2, To: 5},
		planned(-1, "m", 2), planned(api.DoMerge+1, "m", 2), planned(255, "m", 2), planned(256+api.DoSplit, "m", 2),
	}
	for do := api.DoMove; do <= api.DoMerge; do++ {
		l = append(l, planned(do, tooLong, 2), planned(do, "m", -1), planned(do, "m", 256), planned(do, "m", 1<<32+2))
	}
	return l
}

// TestWrongOnes: they are refused ahead of all else, and not kept.
func TestWrongOnes(t *testing.T) {
	for what, m := range masters(t) {
		for _, c := range wrongOnes() {
			wantNothing(t, fmt.Sprintf("P12.1: %s: %+v", what, c), m, 1, 1<<20, c, code(api.ErrArg))
			wantNothing(t, fmt.Sprintf("P12.1: %s: %+v, of no client", what, c), m, -1, 0, c, code(api.ErrArg))
			wantNothing(t, fmt.Sprintf("P12.1: %s: %+v, of a number that was told", what, c), m, maker, 1, c, code(api.ErrArg))
		}
	}
}

// TestLocate: of any client and number, as often as you like.
func TestLocate(t *testing.T) {
	m := arranged(t, 3, split("g"), split("p"), move("g", 2), move("z", 3))
	first, second, third := tab("", "g", 1, 2), tab("g", "p", 2, 4), tab("p", "", 3, 5)
	wantPicture(t, "P12.1: three tablets", m, showAll([]api.Tablet{first, second, third}))
	for name, x := range map[string]api.Tablet{
		"": first, "\x00": first, "a": first, "f": first, "fzzzzzzzzzzzzzzz": first, "f\xff\xff": first,
		"g": second, "g\x00": second, "k": second, "ozzzzzzzzzzzzzzz": second,
		"p": third, "p\x00": third, "z": third, "\xff": third, longest: third, "\xff\xff\xff\xff\xff\xff\xff\xff\xff\xff\xff\xff\xff\xff\xff\xff": third,
	} {
		want := api.Answer{Span: x.Span, Group: x.Group, Gen: x.Gen}
		for _, who := range [][2]int{{1, 1}, {1, 1}, {-5, -5}, {256, 1 << 40}, {0, 0}} {
			wantNothing(t, fmt.Sprintf("P12.1: Locate(%q)", name), m, who[0], who[1], locate(name), want)
		}
		c := locate(name)
		c.Gen, c.To, c.Do, c.Span, c.State = -7, -7, -7, of("b", "a"), []byte("x")
		wantNothing(t, fmt.Sprintf("P12.1: Locate(%q), with what it does not ask for", name), m, 1, 1, c, want)
	}
}

// TestLocateUnderWay: tablets are where they were till a plan is published.
func TestLocateUnderWay(t *testing.T) {
	m := arranged(t, 2, split("m"))
	was := api.Answer{Span: of("m", ""), Group: 1, Gen: 2}
	gen := begun(t, m, move("m", 2)).Gen
	wantNothing(t, "P12.1: Locate, a move is under way", m, 1, 1, locate("z"), was)
	m.Do(1, 1, publish(gen))
	wantNothing(t, "P12.1: Locate, moved", m, 1, 1, locate("z"), api.Answer{Span: of("m", ""), Group: 2, Gen: 3})
}

func TestNothing(t *testing.T) {
	for what, m := range masters(t) {
		for _, who := range [][2]int{{1, 1}, {maker, 1}, {maker, 1000}, {-1, -1}, {256, greatest + 1}} {
			wantNothing(t, "P12.1: "+what+": Nothing", m, who[0], who[1], api.Command{Kind: api.Nothing, Gen: -1, At: tooLong, To: 7, Do: 9}, code(api.OK))
		}
	}
}
