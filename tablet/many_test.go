package tablet_test

import (
	"fmt"
	"maps"
	"math/rand"
	"slices"
	"testing"

	"wardmote/api"
	"wardmote/change"
	"wardmote/cmd"
	"wardmote/row"
	"wardmote/span"
	"wardmote/tablet"
)

// part is a tablet as the document's words have it: rows and replies by their keys.
type part struct {
	span    api.Span
	gen     int
	frozen  bool
	rows    map[string]api.Row
	replies map[int]reply
}

// model is a store as the document's words have it; States are told by numbers.
type model struct {
	l      []*part
	last   int
	code   api.Errno
	states map[string]*part
}

func newModel(l ...api.Tablet) *model {
	m := &model{states: map[string]*part{}}
	for _, x := range l {
		m.l = append(m.l, &part{x.Span, x.Gen, false, map[string]api.Row{}, map[int]reply{}})
		m.last = max(m.last, x.Gen)
	}
	return m
}

func (p *part) copy() *part {
	return &part{p.span, p.gen, p.frozen, maps.Clone(p.rows), maps.Clone(p.replies)}
}

func (m *model) find(ok func(p *part) bool) *part {
	i := slices.IndexFunc(m.l, ok)
	if i < 0 {
		return nil
	}
	return m.l[i]
}

func (m *model) without(l ...*part) {
	m.l = slices.DeleteFunc(m.l, func(p *part) bool { return slices.Contains(l, p) })
}

// do answers as the store is to; what a Freeze told is kept under its State.
func (m *model) do(client, seq int, c api.Command, state []byte) api.Answer {
	switch {
	case c.Kind < api.Operate || c.Kind > api.Merge && c.Kind != api.Nothing:
		return code(api.ErrKind)
	case !cmd.Right(c):
		return code(api.ErrArg)
	}
	just := m.find(func(p *part) bool { return p.span == c.Span && p.gen == c.Gen })
	switch {
	case c.Kind == api.Nothing:
		return code(api.OK)
	case c.Kind == api.Operate:
		return m.operate(client, seq, c.Op)
	case c.Kind == api.Freeze && just == nil:
		return code(api.ErrNone)
	case c.Kind == api.Freeze:
		just.frozen = true
		m.states[string(state)] = just.copy()
		return api.Answer{State: state}
	case c.Kind == api.Retire && just == nil:
		return code(api.OK)
	case c.Kind == api.Retire && !just.frozen:
		return code(api.ErrBusy)
	case c.Kind == api.Retire:
		m.without(just)
		return code(api.OK)
	case c.Gen < m.last:
		return code(api.ErrOld)
	case c.Gen > m.last:
		m.last, m.code = c.Gen, m.arrange(c)
	}
	return code(m.code)
}

func (m *model) operate(client, seq int, o api.Op) api.Answer {
	p := m.find(func(p *part) bool { return span.Has(p.span, o.Row) })
	if p == nil {
		return code(api.ErrWrong)
	}
	old, there := p.replies[client]
	switch {
	case there && old.seq == seq:
		a, _ := cmd.DecodeAnswer(old.answer)
		return a
	case seq < 1 || seq > greatest || client < 0 || client > 255 || there && seq < old.seq:
		return code(api.ErrOld)
	case p.frozen:
		return code(api.ErrBusy)
	}
	a := p.operate(o)
	b, _ := cmd.EncodeAnswer(a)
	p.replies[client] = reply{client, seq, b}
	return a
}

func (p *part) operate(o api.Op) api.Answer {
	r, there := p.rows[o.Row]
	switch o.Kind {
	case api.Get:
		if there {
			return rowsOf(api.Named{Name: o.Row, R: r})
		}
		return code(api.OK)
	case api.Scan:
		return p.scan(o)
	}
	next, why := change.Apply(r, o.L...)
	switch {
	case !change.Holds(r, o.Cond):
		return code(api.ErrCond)
	case why != api.OK:
		return code(why)
	case len(next.L) == 0:
		delete(p.rows, o.Row)
	case !there && len(p.rows) == api.MaxRows:
		return code(api.ErrFull)
	default:
		p.rows[o.Row] = next
	}
	return code(api.OK)
}

func (p *part) scan(o api.Op) api.Answer {
	a := scanned(o.Row, p.span.Hi)
	if p.span.Hi == "" || o.Hi != "" && o.Hi < p.span.Hi {
		a.Span.Hi = o.Hi
	}
	for _, name := range slices.Sorted(maps.Keys(p.rows)) {
		if !span.Has(a.Span, name) {
			continue
		}
		if len(a.Rows) == o.Most {
			a.Span.Hi = name
			break
		}
		a.Rows = append(a.Rows, api.Named{Name: name, R: p.rows[name]})
	}
	return a
}

func (m *model) arrange(c api.Command) api.Errno {
	live := func(s api.Span) *part { return m.find(func(p *part) bool { return p.span == s && !p.frozen }) }
	below, above, _ := span.Split(c.Span, c.At)
	whole, low, high := live(c.Span), live(below), live(above)
	switch {
	case c.Kind == api.Install:
		return m.install(c)
	case c.Kind == api.Split && whole == nil, c.Kind == api.Merge && (low == nil || high == nil):
		return api.ErrNone
	case c.Kind == api.Split && len(m.l) == api.MaxTablets, c.Kind == api.Merge && len(low.rows)+len(high.rows) > api.MaxRows:
		return api.ErrFull
	case c.Kind == api.Split:
		low, high = whole.copy(), whole.copy()
		maps.DeleteFunc(low.rows, func(name string, _ api.Row) bool { return name >= c.At })
		maps.DeleteFunc(high.rows, func(name string, _ api.Row) bool { return name < c.At })
		low.span, high.span, low.gen, high.gen = below, above, c.Gen, c.Gen
		m.without(whole)
		m.l = append(m.l, low, high)
	default:
		both := &part{c.Span, c.Gen, false, maps.Clone(low.rows), maps.Clone(low.replies)}
		maps.Copy(both.rows, high.rows)
		for client, x := range high.replies {
			if x.seq > both.replies[client].seq {
				both.replies[client] = x
			}
		}
		m.without(low, high)
		m.l = append(m.l, both)
	}
	return api.OK
}

func (m *model) install(c api.Command) api.Errno {
	p := m.states[string(c.State)]
	if p == nil || p.span != c.Span {
		return api.ErrForm
	}
	var meet []*part
	for _, x := range m.l {
		if span.Meet(x.span, c.Span) {
			meet = append(meet, x)
		}
	}
	if slices.ContainsFunc(meet, func(x *part) bool { return !x.frozen || x.gen >= c.Gen }) {
		return api.ErrBusy
	}
	if len(m.l)-len(meet) == api.MaxTablets {
		return api.ErrFull
	}
	m.without(meet...)
	p = p.copy()
	p.gen, p.frozen = c.Gen, false
	m.l = append(m.l, p)
	return api.OK
}

// tablets are those that are frozen, or not, by rising Lo.
func (m *model) tablets(frozen bool) []api.Tablet {
	var l []api.Tablet
	for _, p := range m.l {
		if p.frozen == frozen {
			l = append(l, api.Tablet{Span: p.span, Gen: p.gen})
		}
	}
	slices.SortFunc(l, func(a, b api.Tablet) int {
		if a.Span.Lo < b.Span.Lo {
			return -1
		}
		return 1
	})
	return l
}

func (m *model) want(t *testing.T, what string, s *tablet.Store) {
	t.Helper()
	if s.Last() != m.last || !slices.Equal(s.Live(), m.tablets(false)) || !slices.Equal(s.Frozen(), m.tablets(true)) {
		t.Fatalf("%s: %s, want %d %v %v", what, picture(s), m.last, m.tablets(false), m.tablets(true))
	}
	all := map[string]api.Row{}
	for _, p := range m.l {
		if !p.frozen {
			maps.Copy(all, p.rows)
		}
	}
	got := s.Rows()
	names := slices.Sorted(maps.Keys(all))
	same := slices.EqualFunc(got, names, func(x api.Named, name string) bool { return x.Name == name && row.Same(x.R, all[name]) })
	if !same {
		t.Fatalf("%s: rows of %s, want %q", what, picture(s), names)
	}
}

// someEnd is an end of a span, most often one that a tablet has.
func someEnd(rnd *rand.Rand) string {
	return []string{"", "", "b", "d", "f", "h", "k", "m", "p"}[rnd.Intn(9)]
}

func someName(rnd *rand.Rand) string {
	return string(rune('a'+rnd.Intn(18))) + []string{"", "", "1", "2"}[rnd.Intn(4)]
}

func someOp(rnd *rand.Rand) api.Command {
	name := someName(rnd)
	switch rnd.Intn(10) {
	case 0:
		return get(name)
	case 1:
		return scan(name, someEnd(rnd), rnd.Intn(18))
	case 2:
		return scan(someEnd(rnd), "", 1+rnd.Intn(16))
	case 3:
		return drop(name)
	case 4:
		return when(api.Cond{Has: true, Want: rnd.Intn(2) == 0, Col: "c", V: number(float64(rnd.Intn(3)))}, add(name, 1))
	case 5:
		return mutate(name, with(string(rune('c'+rnd.Intn(3))), int64(rnd.Intn(4)), text("x")), plus("c", 3, 1))
	case 6:
		col := string(rune('c' + rnd.Intn(6)))
		return mutate(name, with(col, 1, number(1)), with(col+"1", 1, number(2)), with(col+"2", 2, number(3)))
	}
	return add(name, float64(rnd.Intn(3)))
}

// someCommand is of any kind, most often of what is there.
func someCommand(rnd *rand.Rand, m *model, states [][]byte) api.Command {
	gen := m.last + rnd.Intn(5)/2 - 1 + rnd.Intn(2)
	x := api.Tablet{Span: of(someEnd(rnd), someEnd(rnd)), Gen: gen}
	if len(m.l) > 0 && rnd.Intn(5) > 0 {
		p := m.l[rnd.Intn(len(m.l))]
		x = api.Tablet{Span: p.span, Gen: p.gen}
	}
	switch lo, hi := x.Span.Lo, x.Span.Hi; rnd.Intn(20) {
	case 0, 1:
		return split(lo, hi, gen, someEnd(rnd))
	case 2:
		return merge(lo, someEnd(rnd), gen, hi)
	case 3:
		return merge(someEnd(rnd), hi, gen, lo)
	case 4:
		return freeze(lo, hi, x.Gen)
	case 5:
		return retire(lo, hi, x.Gen)
	case 6, 7:
		if len(states) == 0 {
			return install(lo, hi, gen, nil)
		}
		return install(lo, hi, gen, states[rnd.Intn(len(states))])
	case 8:
		return api.Command{Kind: rnd.Intn(13) - 1, Span: x.Span, Gen: gen}
	}
	return someOp(rnd)
}

// installed is the Install of a State of its own span, which is told in its first bytes.
func installed(rnd *rand.Rand, m *model, states [][]byte) api.Command {
	b := states[rnd.Intn(len(states))]
	p := m.states[string(b)]
	return install(p.span.Lo, p.span.Hi, m.last+1, b)
}

// TestManyCommands: any commands, of stores that States go between; each tells what the model does, and the store is what it is.
func TestManyCommands(t *testing.T) {
	codes := map[string]int{}
	for seed := range int64(40) {
		rnd := rand.New(rand.NewSource(seed))
		s, m := made(t, tab("", "", 1)), newModel(tab("", "", 1))
		other, n := made(t), newModel()
		m.states = n.states
		var states [][]byte
		for i := range 400 {
			c := someCommand(rnd, m, states)
			if len(states) > 0 && rnd.Intn(20) == 0 {
				c = installed(rnd, m, states)
			}
			client, seq := rnd.Intn(5), i/2+rnd.Intn(4)-1
			what := fmt.Sprintf("P10.1: seed %d, command %d, %+v", seed, i, c)
			got := s.Do(client, seq, c)
			want := m.do(client, seq, c, got.State)
			wantAnswer(t, what, got, want)
			m.want(t, what, s)
			wantInOrder(t, what, s)
			if len(got.State) > 0 {
				states = append(states, got.State)
			}
			codes[fmt.Sprint("Kind ", c.Kind, ", Code ", int(got.Code))]++
			if rnd.Intn(10) == 0 {
				s = loaded(t, what, s.Save())
			}
			if rnd.Intn(3) == 0 {
				s, m, other, n = other, n, s, m
			}
		}
	}
	for _, x := range []string{
		"Kind 1, Code 0", "Kind 1, Code 4", "Kind 1, Code 13", "Kind 1, Code 24", "Kind 1, Code 25", "Kind 1, Code 26", "Kind 1, Code 27",
		"Kind 2, Code 0", "Kind 2, Code 22", "Kind 3, Code 0", "Kind 3, Code 4", "Kind 3, Code 12", "Kind 3, Code 27", "Kind 4, Code 0", "Kind 4, Code 4",
		"Kind 5, Code 0", "Kind 5, Code 22", "Kind 5, Code 27", "Kind 6, Code 0", "Kind 6, Code 22", "Kind 6, Code 27", "Kind 10, Code 0",
	} {
		if codes[x] < 3 {
			t.Errorf("the commands hardly tell %s: %v", x, codes)
		}
	}
}
