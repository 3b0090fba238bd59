package master_test

import (
	"bytes"
	"fmt"
	"math/rand"
	"slices"
	"testing"

	"wardmote/api"
	"wardmote/cmd"
)

// model is a master as the document's words have it, on plain lists: neither meta nor once is asked.
type model struct {
	groups, last int
	l            []api.Tablet
	plan         *api.Answer
	replies      map[int]reply
}

func newModel(groups int) *model {
	return &model{groups, 1, whole(), nil, map[int]reply{}}
}

func (m *model) picture() string {
	s := showAll(m.l)
	if m.plan != nil {
		s += "; " + show(*m.plan)
	}
	return s
}

// whose tells where the tablet is that has name.
func (m *model) whose(name string) int {
	i := len(m.l) - 1
	for m.l[i].Span.Lo > name {
		i--
	}
	return i
}

func (m *model) do(client, seq int, c api.Command) api.Answer {
	switch {
	case c.Kind < api.Locate || c.Kind > api.Nothing:
		return code(api.ErrKind)
	case !cmd.Right(c):
		return code(api.ErrArg)
	case c.Kind == api.Nothing:
		return code(api.OK)
	case c.Kind == api.Locate:
		x := m.l[m.whose(c.At)]
		return api.Answer{Span: x.Span, Group: x.Group, Gen: x.Gen}
	case c.Kind == api.Publish:
		return code(m.publish(c))
	case c.Do == 0 && m.plan == nil:
		return code(api.ErrNone)
	case c.Do == 0:
		return *m.plan
	}
	old, there := m.replies[client]
	switch {
	case there && old.seq == seq:
		return old.answer
	case seq < 1 || seq > greatest || client < 0 || client > mostClient || there && seq < old.seq:
		return code(api.ErrOld)
	}
	a := m.begin(c)
	m.replies[client] = reply{client, seq, a}
	return a
}

func (m *model) begin(c api.Command) api.Answer {
	if m.plan != nil {
		return code(api.ErrBusy)
	}
	i := m.whose(c.At)
	x := m.l[i]
	a := api.Answer{Do: c.Do, At: c.At, Span: x.Span, Group: x.Group, Gen: m.last + 1, Old: x.Gen}
	switch c.Do {
	case api.DoMove:
		if c.To < 1 || c.To > m.groups || c.To == x.Group {
			return code(api.ErrArg)
		}
		a.To = c.To
	case api.DoSplit:
		if x.Span.Lo == c.At {
			return code(api.ErrArg)
		}
		if len(m.l) == maxTablets {
			return code(api.ErrFull)
		}
	case api.DoMerge:
		if x.Span.Lo != c.At || i == 0 || m.l[i-1].Group != x.Group {
			return code(api.ErrArg)
		}
		a.Span.Lo, a.Old = m.l[i-1].Span.Lo, 0
	}
	m.last++
	m.plan = &a
	return a
}

func (m *model) publish(c api.Command) api.Errno {
	switch {
	case c.Gen > m.last:
		return api.ErrNone
	case m.plan == nil || m.plan.Gen != c.Gen:
		return api.OK
	}
	p := *m.plan
	m.plan = nil
	if c.To == -1 {
		return api.OK
	}
	i := m.whose(p.At)
	switch p.Do {
	case api.DoMove:
		m.l[i].Group, m.l[i].Gen = p.To, p.Gen
	case api.DoSplit:
		hi := m.l[i].Span.Hi
		m.l[i].Span.Hi, m.l[i].Gen = p.At, p.Gen
		m.l = slices.Insert(m.l, i+1, tab(p.At, hi, p.Group, p.Gen))
	case api.DoMerge:
		m.l[i-1].Span.Hi, m.l[i-1].Gen = m.l[i].Span.Hi, p.Gen
		m.l = slices.Delete(m.l, i, i+1)
	}
	return api.OK
}

// someCommand is one that a master may be asked, with names and Gens that are often there.
func someCommand(rnd *rand.Rand, m *model) api.Command {
	at := []string{"", "b", "bb", "d", "f", "h", "j", "k", "m", "mm", "n", "p", "q", "r", "s", "t", "u", "w", "y", longest, tooLong}[rnd.Intn(21)]
	if rnd.Intn(3) == 0 {
		at = m.l[rnd.Intn(len(m.l))].Span.Lo
	}
	gen := m.last + rnd.Intn(3) - 1
	switch rnd.Intn(12) {
	case 0:
		return locate(at)
	case 1:
		return which()
	case 2, 3, 4:
		return publish(m.last)
	case 5:
		return []api.Command{leave(gen), publish(gen), publish(rnd.Intn(m.last + 1)), {Kind: api.Publish, Gen: gen, To: rnd.Intn(4) - 2}}[rnd.Intn(4)]
	case 6:
		return api.Command{Kind: rnd.Intn(13) - 1, At: at, Gen: gen, Do: rnd.Intn(6) - 1, To: rnd.Intn(5) - 1}
	case 7, 8:
		return planned(api.DoMove, at, rnd.Intn(5))
	case 9:
		// Merges are rare, so that there are often as many tablets as there may be.
		if rnd.Intn(3) > 0 {
			break
		}
		return planned(api.DoMerge, at, rnd.Intn(3)-rnd.Intn(2))
	}
	return planned(api.DoSplit, at, rnd.Intn(3))
}

// TestManyCommands: any commands; each tells what the model does, and the master is what it is.
func TestManyCommands(t *testing.T) {
	t.Parallel()
	codes := map[string]int{}
	for seed := range int64(60) {
		rnd := rand.New(rand.NewSource(seed))
		groups := 1 + int(seed)%maxGroups
		m, n := made(t, groups), newModel(groups)
		was := m.Save()
		for i := range 500 {
			c := someCommand(rnd, n)
			client, seq := rnd.Intn(5), i/2+rnd.Intn(4)-1
			if rnd.Intn(40) == 0 {
				client = rnd.Intn(600) - 200
			}
			what := fmt.Sprintf("P12.1: seed %d, command %d, client %d, number %d, %+v", seed, i, client, seq, c)
			got := m.Do(client, seq, c)
			wantAnswer(t, what, got, n.do(client, seq, c))
			wantPicture(t, what, m, n.picture())
			wantInOrder(t, what, m)
			codes[fmt.Sprint("Kind ", c.Kind, ", Code ", int(got.Code))]++
			if got.Do != 0 {
				codes[fmt.Sprint("Do ", got.Do)]++
			}
			// What was loaded is not loaded once more.
			if b := m.Save(); !bytes.Equal(b, was) {
				was = b
				other := loaded(t, what, b)
				wantSaved(t, what+": loaded", other, b)
				if rnd.Intn(3) == 0 {
					m = other
				}
			}
			if t.Failed() {
				return
			}
		}
	}
	for _, x := range []string{
		"Kind 7, Code 0", "Kind 7, Code 1", "Kind 8, Code 0", "Kind 8, Code 1", "Kind 8, Code 4", "Kind 8, Code 13", "Kind 8, Code 22", "Kind 8, Code 27",
		"Kind 9, Code 0", "Kind 9, Code 1", "Kind 9, Code 22", "Kind 10, Code 0", "Kind 0, Code 24", "Kind 1, Code 24", "Do 1", "Do 2", "Do 3",
	} {
		if codes[x] < 20 {
			t.Errorf("the commands hardly tell %s: %v", x, codes)
		}
	}
}

// TestManyClients: plans of any number of clients, carried out or not; what is saved then is loaded.
func TestManyClients(t *testing.T) {
	for i, clients := range []int{1, 2, 3, 8, 30, 100, 256} {
		rnd := rand.New(rand.NewSource(int64(i)))
		for groups := 1; groups <= maxGroups; groups++ {
			m := made(t, groups)
			for seq := 1; seq <= 120; seq++ {
				do := []int{api.DoMove, api.DoSplit, api.DoSplit, api.DoMerge}[rnd.Intn(4)]
				a := m.Do(rnd.Intn(clients), seq, planned(do, string(rune('a'+rnd.Intn(26))), rnd.Intn(groups+1)))
				if a.Code == api.OK && rnd.Intn(9) > 0 {
					m.Do(0, 0, []api.Command{publish(a.Gen), publish(a.Gen), leave(a.Gen)}[rnd.Intn(3)])
				}
				b := m.Save()
				what := fmt.Sprintf("P12.2: %d clients, %d groups, number %d", clients, groups, seq)
				other := loaded(t, what, b)
				wantSaved(t, what, other, b)
				wantPicture(t, what, other, picture(m))
			}
		}
	}
}

// TestEachGenOnce: each plan's Gen is above all that there were, whoever asks, and whatever became of the plans ahead of it.
func TestEachGenOnce(t *testing.T) {
	for seed := range int64(20) {
		rnd := rand.New(rand.NewSource(seed))
		m, n := made(t, 3), newModel(3)
		plans := map[int]string{1: "the first tablet"}
		newest := 1
		for i := range 500 {
			client, seq, c := rnd.Intn(4), i/3, someCommand(rnd, n)
			busy := n.plan != nil
			a := m.Do(client, seq, c)
			n.do(client, seq, c)
			if a.Code != api.OK || a.Do == 0 {
				continue
			}
			if was, there := plans[a.Gen]; there && was != show(a) {
				t.Fatalf("P12.3: Gen %d of two plans: %s, %s", a.Gen, was, show(a))
			}
			if _, there := plans[a.Gen]; !there && (busy || a.Gen <= newest) {
				t.Fatalf("P12.3: a new plan %s behind Gen %d", show(a), newest)
			}
			plans[a.Gen] = show(a)
			newest = max(newest, a.Gen)
			for _, x := range m.All() {
				if x.Gen > newest {
					t.Fatalf("P12.3: a tablet's Gen that no plan had: %s", picture(m))
				}
			}
		}
		if newest < 30 {
			t.Errorf("hardly any plans: %d", newest)
		}
	}
}

// smallCommands are what TestAllSmallOnes asks, each by the next number of one of two clients.
func smallCommands() []api.Command {
	return []api.Command{
		move("", 1), move("", 2), move("m", 1), move("m", 2), split("m"), merge("m"),
		{Kind: api.Publish}, {Kind: api.Publish, To: -1},
	}
}

// TestAllSmallOnes: each master that a few commands lead to is loaded from what it saves, as what it is.
func TestAllSmallOnes(t *testing.T) {
	t.Parallel()
	type one struct {
		saved []byte
		next  [2]int
	}
	seen := map[string]int{}
	l := []one{{made(t, 2).Save(), [2]int{1, 1}}}
	for len(seen) < 30000 && len(l) > 0 {
		x := l[0]
		l = l[1:]
		for client := range 2 {
			for _, c := range smallCommands() {
				m := loaded(t, "a small one", x.saved)
				a, busy := m.Pending()
				if c.Kind == api.Publish && (!busy || client == 1) {
					continue
				}
				next := x.next
				if c.Kind == api.Publish {
					c.Gen = a.Gen
				} else {
					next[client]++
				}
				m.Do(client, x.next[client], c)
				b := m.Save()
				if _, there := seen[string(b)]; there {
					continue
				}
				seen[string(b)] = len(seen)
				other := loaded(t, picture(m), b)
				wantSaved(t, "P12.2: a small one", other, b)
				wantPicture(t, "P12.2: a small one", other, picture(m))
				l = append(l, one{b, next})
			}
		}
	}
	if len(seen) < 30000 {
		t.Errorf("hardly any masters: %d", len(seen))
	}
}
