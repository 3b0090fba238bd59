package app_test

import (
	"bytes"
	"fmt"
	"strings"
	"testing"

	"wardmote/api"
	"wardmote/app"
	"wardmote/cmd"
	"wardmote/master"
	"wardmote/tablet"
)

// The bounds by themselves: neither api nor app is asked.
const (
	maxGroups = 3
	maxBytes  = 1 << 20
	greatest  = 1 << 30 // of Gens, and of the numbers of requests
)

func of(lo, hi string) api.Span { return api.Span{Lo: lo, Hi: hi} }

func put(name, col string, n float64) api.Command {
	return api.Command{Kind: api.Operate, Op: api.Op{Kind: api.Mutate, Row: name, L: []api.Change{
		{Kind: api.Put, Col: col, Time: 1, V: api.Value{Kind: api.Number, N: n}},
		{Kind: api.Put, Col: col, Time: 2, V: api.Value{Kind: api.Text, B: []byte("text")}},
	}}}
}

func get(name string) api.Command {
	return api.Command{Kind: api.Operate, Op: api.Op{Kind: api.Get, Row: name}}
}

func scan(lo, hi string, most int) api.Command {
	return api.Command{Kind: api.Operate, Op: api.Op{Kind: api.Scan, Row: lo, Hi: hi, Most: most}}
}

func freeze(s api.Span, gen int) api.Command {
	return api.Command{Kind: api.Freeze, Span: s, Gen: gen}
}

func retire(s api.Span, gen int) api.Command {
	return api.Command{Kind: api.Retire, Span: s, Gen: gen}
}

func install(s api.Span, gen int, state []byte) api.Command {
	return api.Command{Kind: api.Install, Span: s, Gen: gen, State: state}
}

func split(s api.Span, gen int, at string) api.Command {
	return api.Command{Kind: api.Split, Span: s, Gen: gen, At: at}
}

func merge(s api.Span, gen int, at string) api.Command {
	return api.Command{Kind: api.Merge, Span: s, Gen: gen, At: at}
}

func locate(at string) api.Command { return api.Command{Kind: api.Locate, At: at} }

func plan(do int, at string, to int) api.Command {
	return api.Command{Kind: api.Plan, Do: do, At: at, To: to}
}

func publish(gen, to int) api.Command { return api.Command{Kind: api.Publish, Gen: gen, To: to} }

func nothing() api.Command { return api.Command{Kind: api.Nothing} }

// code is an answer of that Code alone.
func code(e api.Errno) api.Answer { return api.Answer{Code: e} }

// request is c as the client asks it, as bytes.
func request(t *testing.T, client, seq int, c api.Command) []byte {
	t.Helper()
	b, why := cmd.Encode(c)
	if why != api.OK {
		t.Fatalf("P8.2: Encode(%+v): %v", c, why)
	}
	return cmd.Wrap(client, seq, b)
}

func made(t *testing.T, group, groups int) *app.App {
	t.Helper()
	a := app.New(group, groups)
	if a == nil {
		t.Fatalf("P13.1: New(%d, %d): nil", group, groups)
	}
	return a
}

// asked is what c is told.
func asked(t *testing.T, a *app.App, client, seq int, c api.Command) api.Answer {
	t.Helper()
	return answer(t, a.Do(request(t, client, seq, c)))
}

func answer(t *testing.T, b []byte) api.Answer {
	t.Helper()
	x, why := cmd.DecodeAnswer(b)
	if why != api.OK {
		t.Fatalf("P13.1: no answer: % x", b)
	}
	return x
}

func show(a api.Answer) string {
	if len(a.State) > 40 {
		a.State = a.State[:40]
	}
	return fmt.Sprintf("%d %+v", int(a.Code), a)
}

func wantAnswer(t *testing.T, what string, got, want api.Answer) {
	t.Helper()
	if !cmd.SameAnswer(got, want) {
		t.Errorf("%s: %s, want %s", what, show(got), show(want))
	}
}

func wantSaved(t *testing.T, what string, a *app.App, want []byte) {
	t.Helper()
	if got := a.Save(); !bytes.Equal(got, want) {
		t.Errorf("%s: Save: %.300x, want %.300x", what, got, want)
	}
}

// picture is what an app tells of itself.
func picture(a *app.App) string {
	b := &strings.Builder{}
	fmt.Fprint(b, "group ", a.Group(), " live ", a.Live(), " frozen ", a.Frozen(), " all ", a.All(), " rows")
	for _, x := range a.Rows() {
		fmt.Fprint(b, " ", x.Name, x.R)
	}
	p, ok := a.Pending()
	fmt.Fprint(b, " pending ", ok, " ", show(p))
	return b.String()
}

func wantPicture(t *testing.T, what string, a *app.App, want string) {
	t.Helper()
	if got := picture(a); got != want {
		t.Errorf("%s: %s, want %s", what, got, want)
	}
}

// twin is what there is behind an app: a master, or tablets.
type twin struct {
	m *master.Master
	s *tablet.Store
}

func newTwin(group, groups int) *twin {
	switch group {
	case 0:
		return &twin{m: master.New(groups)}
	case 1:
		return &twin{s: tablet.New(api.Tablet{Gen: 1})}
	}
	return &twin{s: tablet.New()}
}

func (x *twin) do(client, seq int, c api.Command) api.Answer {
	if x.m != nil {
		return x.m.Do(client, seq, c)
	}
	return x.s.Do(client, seq, c)
}

// told is what the app is to tell of v, which is not empty.
func (x *twin) told(v []byte) api.Answer {
	client, seq, in, ok := cmd.Unwrap(v)
	if !ok {
		return code(api.ErrForm)
	}
	c, why := cmd.Decode(in)
	if why != api.OK {
		return code(api.ErrForm)
	}
	a := x.do(client, seq, c)
	if len(a.State) > maxBytes {
		return code(api.ErrLong)
	}
	return a
}

func (x *twin) picture(group int) string {
	b := &strings.Builder{}
	var none []api.Tablet
	if x.m != nil {
		p, ok := x.m.Pending()
		fmt.Fprint(b, "group ", group, " live ", none, " frozen ", none, " all ", x.m.All(), " rows pending ", ok, " ", show(p))
		return b.String()
	}
	fmt.Fprint(b, "group ", group, " live ", x.s.Live(), " frozen ", x.s.Frozen(), " all ", none, " rows")
	for _, y := range x.s.Rows() {
		fmt.Fprint(b, " ", y.Name, y.R)
	}
	fmt.Fprint(b, " pending false ", show(api.Answer{}))
	return b.String()
}

// numbers are some that groups may not be, and all that they may be, and some more.
func numbers() []int {
	return []int{-1 << 62, -256, -1, 0, 1, 2, 3, 4, 5, 255, 256, 257, 1<<32 + 1, 1<<63 - 1}
}

func mayBe(group, groups int) bool {
	return groups >= 1 && groups <= maxGroups && group >= 0 && group <= groups
}

func TestNew(t *testing.T) {
	for _, groups := range numbers() {
		for _, group := range numbers() {
			a := app.New(group, groups)
			if (a != nil) != mayBe(group, groups) {
				t.Errorf("P13.1: New(%d, %d): %v", group, groups, a != nil)
			}
			if a != nil && a.Group() != group {
				t.Errorf("P13.1: New(%d, %d): Group: %d", group, groups, a.Group())
			}
		}
	}
}

// TestWhatIsBehindIt: in group 0 a master, in group 1 one tablet, in others none.
func TestWhatIsBehindIt(t *testing.T) {
	none := "pending false " + show(api.Answer{})
	for groups := 1; groups <= maxGroups; groups++ {
		for group := 0; group <= groups; group++ {
			a := made(t, group, groups)
			what := fmt.Sprintf("P13.1: New(%d, %d)", group, groups)
			wantPicture(t, what, a, newTwin(group, groups).picture(group))
			switch group {
			case 0:
				wantPicture(t, what, a, "group 0 live [] frozen [] all [{{ } 1 1}] rows "+none)
				for to := 0; to <= maxGroups+1; to++ {
					want := code(api.ErrArg)
					if to > 1 && to <= groups {
						want = api.Answer{Do: api.DoMove, At: "m", Group: 1, To: to, Gen: 2, Old: 1}
					}
					wantAnswer(t, fmt.Sprint(what, ": a move to ", to), asked(t, made(t, group, groups), 7, 1, plan(api.DoMove, "m", to)), want)
				}
			case 1:
				wantPicture(t, what, a, "group 1 live [{{ } 0 1}] frozen [] all [] rows "+none)
				wantAnswer(t, what+": Gen 1 was there", asked(t, a, 7, 1, split(of("", ""), 1, "m")), code(api.OK))
				wantAnswer(t, what+": a row", asked(t, a, 7, 1, put("a", "c", 1)), code(api.OK))
			default:
				wantPicture(t, what, a, fmt.Sprint("group ", group, " live [] frozen [] all [] rows ", none))
				wantAnswer(t, what+": no Gen was there", asked(t, a, 7, 1, split(of("", ""), 1, "m")), code(api.ErrNone))
				wantAnswer(t, what+": a row", asked(t, a, 7, 1, put("a", "c", 1)), code(api.ErrWrong))
			}
		}
	}
}

// TestNewByItself: New makes another one each time.
func TestNewByItself(t *testing.T) {
	for group := range 3 {
		a, b := made(t, group, 2), made(t, group, 2)
		was := b.Save()
		asked(t, a, 1, 1, put("a", "c", 1))
		asked(t, a, 1, 1, plan(api.DoSplit, "m", 0))
		asked(t, a, 1, 1, install(of("", "m"), 9, nil))
		if bytes.Equal(a.Save(), was) {
			t.Errorf("P13.1: group %d: nothing has changed", group)
		}
		wantSaved(t, fmt.Sprint("P13.1: group ", group, ": the other one"), b, was)
	}
}

// TestRuns: the chapter's run and its examples.
func TestRuns(t *testing.T) {
	if got := fmt.Sprint(made(t, 1, 2).Live()); got != "[{{ } 0 1}]" {
		t.Errorf("run: New(1, 2): Live: %s", got)
	}
	if app.New(3, 2) != nil {
		t.Error("example 1: New(3, 2)")
	}
	for group := range 3 {
		wantAnswer(t, "example 2: Do of rubbish", answer(t, made(t, group, 2).Do([]byte("rubbish"))), code(api.ErrForm))
	}
}

// TestOfTheOtherKind: of a master there are no tablets, of tablets there is no plan, whatever is asked.
func TestOfTheOtherKind(t *testing.T) {
	m := made(t, 0, 3)
	for i, c := range []api.Command{plan(api.DoSplit, "m", 0), publish(2, 0), plan(api.DoMove, "z", 2)} {
		asked(t, m, 1, i+1, c)
		if len(m.Live()) > 0 || len(m.Frozen()) > 0 || len(m.Rows()) > 0 {
			t.Errorf("P13.1: of a master: %s", picture(m))
		}
	}
	if p, ok := m.Pending(); !ok || p.Gen != 3 || len(m.All()) != 2 || m.Group() != 0 {
		t.Errorf("P13.1: of a master: %s", picture(m))
	}
	for group := 1; group <= 3; group++ {
		s := made(t, group, 3)
		state := asked(t, made(t, 1, 3), 1, 1, freeze(of("", ""), 1)).State
		for i, c := range []api.Command{put("a", "c", 1), install(of("", ""), 2, state), put("b", "c", 2), freeze(of("", ""), 2), plan(api.DoSplit, "m", 0)} {
			asked(t, s, 1, i+1, c)
			p, ok := s.Pending()
			if len(s.All()) > 0 || ok || !cmd.SameAnswer(p, api.Answer{}) || s.Group() != group {
				t.Errorf("P13.1: of tablets: %s", picture(s))
			}
		}
	}
}

// TestNone: objects that no call made do not panic either.
func TestNone(t *testing.T) {
	for _, a := range []*app.App{nil, {}} {
		if a.Group() != 0 || len(a.Live())+len(a.Frozen())+len(a.All())+len(a.Rows())+len(a.Save()) > 0 {
			t.Error("R1: what is none tells something")
		}
		if _, ok := a.Pending(); ok || len(a.Do(nil)) > 0 {
			t.Error("R1: what is none tells something")
		}
		wantAnswer(t, "R1: what is none", answer(t, a.Do(request(t, 1, 1, nothing()))), code(api.ErrArg))
	}
}
