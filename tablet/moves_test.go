package tablet_test

import (
	"fmt"
	"math/rand"
	"testing"

	"wardmote/api"
	"wardmote/span"
	"wardmote/tablet"
)

// sent is a command that was sent to a store, and may come there again at any time.
type sent struct {
	to, client, seq int
	c               api.Command
}

// town is some stores between which tablets are moved, as a mover does it, and clients that count in rows.
type town struct {
	t      *testing.T
	rnd    *rand.Rand
	stores []*tablet.Store
	where  []api.Tablet // Group is a store's place
	gen    int
	late   []sent
	asks   []sent             // what each client asks now
	want   map[string]float64 // of each row how often it was asked and told
}

func newTown(t *testing.T, seed int64) *town {
	w := &town{t: t, rnd: rand.New(rand.NewSource(seed)), gen: 1, want: map[string]float64{}}
	w.stores = []*tablet.Store{made(t, tab("", "", 1)), made(t), made(t)}
	w.where = []api.Tablet{tab("", "", 1)}
	for client := range 4 {
		w.asks = append(w.asks, sent{client: client})
		w.next(client)
	}
	return w
}

// next lets the client ask for one more count.
func (w *town) next(client int) {
	x := &w.asks[client]
	x.seq++
	x.c = add(string(rune('a'+w.rnd.Intn(12))), 1)
}

func (w *town) send(x sent) api.Answer {
	w.late = append(w.late, x)
	return w.stores[x.to].Do(x.client, x.seq, x.c)
}

// ask sends what the client asks to any store; sometimes what it is told is lost.
func (w *town) ask(client int) {
	w.t.Helper()
	x := w.asks[client]
	x.to = w.rnd.Intn(len(w.stores))
	switch a := w.send(x); {
	case a.Code == api.ErrWrong || a.Code == api.ErrBusy:
	case a.Code != api.OK:
		w.t.Fatalf("P10.3: a count that was not told yet: %+v", a)
	case w.rnd.Intn(3) > 0:
		w.want[x.c.Op.Row]++
		w.next(client)
	}
}

// again sends something that was sent; a count that was told is not done again.
func (w *town) again() {
	w.t.Helper()
	if len(w.late) == 0 {
		return
	}
	x := w.late[w.rnd.Intn(len(w.late))]
	if x.c.Kind != api.Operate {
		w.stores[x.to].Do(x.client, x.seq, x.c)
		return
	}
	if x.seq >= w.asks[x.client].seq {
		return
	}
	x.to = w.rnd.Intn(len(w.stores))
	was := w.stores[x.to].Save()
	a := w.stores[x.to].Do(x.client, x.seq, x.c)
	wantSaved(w.t, fmt.Sprintf("P10.3: number %d of client %d, which was told, is done again (%+v)", x.seq, x.client, a), w.stores[x.to], was)
}

// insist sends a mover's command till it is told OK, with all else going on between.
func (w *town) insist(to int, c api.Command) api.Answer {
	w.t.Helper()
	for range w.rnd.Intn(3) {
		w.send(sent{to, 255, 1, c})
		w.goOn()
	}
	a := w.send(sent{to, 255, 1, c})
	if a.Code != api.OK {
		w.t.Fatalf("P10.1: a mover's %+v: %+v, of %s", c, a, picture(w.stores[to]))
	}
	return a
}

// goOn lets clients ask, late ones come, and stores be opened anew.
func (w *town) goOn() {
	w.t.Helper()
	for range w.rnd.Intn(6) {
		switch w.rnd.Intn(5) {
		case 0:
			w.again()
		case 1:
			i := w.rnd.Intn(len(w.stores))
			w.stores[i] = loaded(w.t, "a store", w.stores[i].Save())
		default:
			w.ask(w.rnd.Intn(len(w.asks)))
		}
		w.wantApart()
	}
}

// wantApart asks that no two live tablets of all stores Meet.
func (w *town) wantApart() {
	w.t.Helper()
	var l []api.Span
	for _, s := range w.stores {
		for _, x := range s.Live() {
			l = append(l, x.Span)
		}
	}
	if !span.Apart(l...) {
		w.t.Fatalf("W3: live tablets Meet: %v", l)
	}
}

func (w *town) move(i int) {
	w.t.Helper()
	x := w.where[i]
	to := (x.Group + 1 + w.rnd.Intn(len(w.stores)-1)) % len(w.stores)
	w.gen++
	gen := w.gen
	state := w.insist(x.Group, freeze(x.Span.Lo, x.Span.Hi, x.Gen)).State
	w.insist(to, install(x.Span.Lo, x.Span.Hi, gen, state))
	w.where[i] = api.Tablet{Span: x.Span, Group: to, Gen: gen}
	if w.rnd.Intn(4) > 0 {
		w.insist(x.Group, retire(x.Span.Lo, x.Span.Hi, x.Gen))
	}
}

func (w *town) split(i int) {
	w.t.Helper()
	x := w.where[i]
	low, high, ok := span.Split(x.Span, string(rune('a'+w.rnd.Intn(12))))
	if !ok || len(w.where) >= 8 {
		return
	}
	w.gen++
	gen := w.gen
	w.insist(x.Group, split(x.Span.Lo, x.Span.Hi, gen, high.Lo))
	w.where[i] = api.Tablet{Span: low, Group: x.Group, Gen: gen}
	w.where = append(w.where, api.Tablet{Span: high, Group: x.Group, Gen: gen})
}

// merge merges the tablet with the next one, if that is in the same store.
func (w *town) merge(i int) {
	w.t.Helper()
	x := w.where[i]
	for k, y := range w.where {
		both, ok := span.Join(x.Span, y.Span)
		if !ok || x.Group != y.Group {
			continue
		}
		w.gen++
		gen := w.gen
		w.insist(x.Group, merge(both.Lo, both.Hi, gen, y.Span.Lo))
		w.where[i] = api.Tablet{Span: both, Group: x.Group, Gen: gen}
		w.where = append(w.where[:k:k], w.where[k+1:]...)
		return
	}
}

// settle lets all clients be told, and asks that each count is there once.
func (w *town) settle() {
	w.t.Helper()
	for client, x := range w.asks {
		for _, y := range w.where {
			if span.Has(y.Span, x.c.Op.Row) {
				wantAnswer(w.t, "W1: the last count", w.stores[y.Group].Do(client, x.seq, x.c), code(api.OK))
				w.want[x.c.Op.Row]++
			}
		}
	}
	got := map[string]float64{}
	for _, s := range w.stores {
		for _, x := range s.Rows() {
			got[x.Name] += x.R.L[0].L[0].V.N
		}
	}
	if fmt.Sprint(got) != fmt.Sprint(w.want) {
		w.t.Errorf("W1: counts are %v, want %v", got, w.want)
	}
}

// wantWhere asks that the live tablets are where they were brought, and cover all names.
func (w *town) wantWhere() {
	w.t.Helper()
	live := 0
	for _, s := range w.stores {
		live += len(s.Live())
	}
	for _, x := range w.where {
		found := false
		for _, y := range w.stores[x.Group].Live() {
			found = found || y.Span == x.Span && y.Gen == x.Gen
		}
		if !found {
			w.t.Errorf("W3: no live tablet %v in store %d: %s", x.Span, x.Group, picture(w.stores[x.Group]))
		}
	}
	if live != len(w.where) {
		w.t.Errorf("W3: %d live tablets, want %d", live, len(w.where))
	}
}

// TestEachNumberOnce: through Split, Merge, Freeze, Install and Retire, whatever comes late or twice.
func TestEachNumberOnce(t *testing.T) {
	most := 0
	for seed := range int64(60) {
		w := newTown(t, seed)
		for range 40 {
			w.goOn()
			i := w.rnd.Intn(len(w.where))
			switch w.rnd.Intn(3) {
			case 0:
				w.move(i)
			case 1:
				w.split(i)
			default:
				w.merge(i)
			}
			w.wantWhere()
			most = max(most, len(w.where))
		}
		w.settle()
	}
	if most < 5 {
		t.Errorf("the towns have hardly any tablets: %d at most", most)
	}
}

// TestOnceThroughAll: one count, asked again behind each step of a tablet's way.
func TestOnceThroughAll(t *testing.T) {
	a, b := made(t, tab("", "", 1)), made(t)
	count := add("n", 1)
	ask := func(what string, s *tablet.Store, want api.Errno) {
		t.Helper()
		was := s.Save()
		wantAnswer(t, "P10.3: "+what, s.Do(1, 7, count), code(want))
		wantSaved(t, "P10.3: "+what, s, was)
	}
	a.Do(1, 7, count)
	ask("again", a, api.OK)
	a.Do(9, 1, split("", "", 2, "m"))
	ask("behind Split", a, api.OK)
	state := frozenState(t, a, "m", "", 2)
	ask("behind Freeze", a, api.OK)
	ask("where it is not", b, api.ErrWrong)
	b.Do(9, 1, install("m", "", 3, state))
	ask("behind Install", b, api.OK)
	ask("of the frozen one", a, api.OK)
	a.Do(9, 1, retire("m", "", 2))
	ask("behind Retire", a, api.ErrWrong)
	b.Do(9, 1, install("", "m", 4, emptyState("", "m")))
	b.Do(9, 1, merge("", "", 5, "m"))
	ask("behind Merge", b, api.OK)
	b.Do(1, 8, get("n"))
	ask("behind a next number", b, api.ErrOld)
	wantPicture(t, "P10.3: at the end", b, "5 -#5 n=1")
}
