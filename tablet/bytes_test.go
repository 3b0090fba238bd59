package tablet_test

import (
	"bytes"
	"fmt"
	"slices"
	"strings"
	"testing"

	"wardmote/api"
	"wardmote/cmd"
	"wardmote/octet"
	"wardmote/row"
	"wardmote/span"
	"wardmote/tablet"
)

// encoded is an answer as the cache has it.
func encoded(t *testing.T, a api.Answer) []byte {
	t.Helper()
	b, why := cmd.EncodeAnswer(a)
	if why != api.OK {
		t.Fatalf("EncodeAnswer(%+v): %v", a, why)
	}
	return b
}

// reply is what a cache has of a client.
type reply struct {
	client, seq int
	answer      []byte
}

// body is a tablet, whatever may be in it.
type body struct {
	span    api.Span
	gen     int
	rows    []api.Named
	replies []reply
	frozen  byte
}

func (x body) write(w *octet.Writer) {
	span.Write(w, x.span)
	w.Num(uint32(x.gen))
	w.Num(uint32(len(x.rows)))
	for _, y := range x.rows {
		w.Text([]byte(y.Name))
		row.Write(w, y.R)
	}
	w.Num(uint32(len(x.replies)))
	for _, y := range x.replies {
		w.Byte(byte(y.client))
		w.Num(uint32(y.seq))
		w.Text(y.answer)
	}
}

// state is the tablet as Freeze would tell it.
func (x body) state() []byte {
	w := octet.New()
	x.write(w)
	return w.Done()
}

// saved is a store of these tablets as Save would write it.
func saved(last int, e api.Errno, l ...body) []byte {
	w := octet.New()
	w.Num(uint32(last))
	w.Byte(byte(e))
	w.Byte(byte(len(l)))
	for _, x := range l {
		w.Byte(x.frozen)
		x.write(w)
	}
	return w.Done()
}

func loaded(t *testing.T, what string, b []byte) *tablet.Store {
	t.Helper()
	s, ok := tablet.Load(b)
	if !ok || s == nil {
		t.Fatalf("P10.2: %s: Load: %v, %v", what, s != nil, ok)
	}
	return s
}

func wantNoLoad(t *testing.T, what string, b []byte) {
	t.Helper()
	if s, ok := tablet.Load(b); ok || s != nil {
		t.Errorf("P10.2: %s: Load: %v, %v", what, s != nil, ok)
	}
}

// stores are of all kinds: of none, of one, of many; with rows, caches, frozen ones; behind each Code of Last.
func stores(t *testing.T) map[string]*tablet.Store {
	t.Helper()
	behind := func(s *tablet.Store, l ...api.Command) *tablet.Store {
		for i, c := range l {
			s.Do(1, i+1, c)
		}
		return s
	}
	full := made(t, many(api.MaxTablets, greatest, 1)...)
	return map[string]*tablet.Store{
		"none":            made(t),
		"one":             made(t, tab("", "", 1)),
		"many":            full,
		"rows":            behind(made(t, tab("", "", 1)), add("a", 1), mutate("b", with("x", 2, text("y")), with("x", 1, number(2)), with("y", 3, text(""))), scan("", "", 1), get("a")),
		"frozen":          busy(t),
		"three":           three(t),
		"Code OK":         behind(three(t), split("c", "m", 6, "e")),
		"Code ErrNone":    behind(three(t), split("c", "n", 6, "e")),
		"Code ErrForm":    behind(made(t), install("c", "n", 6, nil)),
		"Code ErrBusy":    behind(three(t), install("", "", 6, emptyState("", ""))),
		"Code ErrFull":    behind(made(t, many(api.MaxTablets, 1)...), split("00", "01", 2, "005")),
		"Gen 1, refused":  behind(made(t), split("", "", 1, "m")),
		"all are retired": behind(made(t, tab("", "", 4)), add("a", 1), freeze("", "", 4), retire("", "", 4)),
		"one is retired":  behind(made(t, tab("", "m", 4), tab("m", "", 3)), add("z", 1), freeze("", "m", 4), retire("", "m", 4)),
	}
}

func TestSaveAndLoad(t *testing.T) {
	for what, s := range stores(t) {
		b := s.Save()
		if !bytes.Equal(s.Save(), b) {
			t.Errorf("P10.2: %s: Save twice differs", what)
		}
		other := loaded(t, what, b)
		wantPicture(t, "P10.2: "+what+": Load of Save", other, picture(s))
		if !bytes.Equal(other.Save(), b) {
			t.Errorf("P10.2: %s: Save of Load: % x, was % x", what, other.Save(), b)
		}
	}
}

// TestLoadOfLess: cut off at each place; and with more behind it.
func TestLoadOfLess(t *testing.T) {
	for what, s := range stores(t) {
		b := s.Save()
		for i := range b {
			wantNoLoad(t, fmt.Sprint(what, ", the first ", i, " bytes"), b[:i])
			// The last bytes may be those of a smaller store.
			if s, ok := tablet.Load(b[i+1:]); ok != (s != nil) || ok && !bytes.Equal(s.Save(), b[i+1:]) {
				t.Errorf("P10.2: %s, all but the first %d bytes: Load: %v, %v", what, i+1, s != nil, ok)
			}
		}
		for _, more := range []string{"\x00", "\x01", "\xff", "\x00\x00\x00\x00\x00\x00", string(b)} {
			wantNoLoad(t, fmt.Sprintf("%s, with %.9q behind it", what, more), slices.Concat(b, []byte(more)))
		}
	}
	wantNoLoad(t, "nil", nil)
	wantNoLoad(t, "no bytes", []byte{})
}

// wantInOrder asks of a store, however it came, that its tablets do not Meet, that no Gen is above Last, and that all rows are in live ones.
func wantInOrder(t *testing.T, what string, s *tablet.Store) {
	t.Helper()
	all := append(s.Live(), s.Frozen()...)
	var spans []api.Span
	for _, x := range all {
		spans = append(spans, x.Span)
		if x.Gen < 1 || x.Gen > s.Last() {
			t.Errorf("%s: Gen %d, Last %d", what, x.Gen, s.Last())
		}
	}
	if !span.Apart(spans...) || len(all) > api.MaxTablets || s.Last() > greatest {
		t.Errorf("W3: %s: %s", what, picture(s))
	}
	l := s.Rows()
	for i, x := range l {
		in := slices.ContainsFunc(s.Live(), func(y api.Tablet) bool { return span.Has(y.Span, x.Name) })
		if !in || i > 0 && l[i-1].Name >= x.Name || !row.Right(x.R) || len(x.R.L) == 0 {
			t.Errorf("%s: row %q of %s", what, x.Name, picture(s))
		}
	}
}

// turns are what bytes are turned by: each bit, all of them, and some together.
func turns() []byte {
	return []byte{1, 2, 4, 8, 16, 32, 64, 128, 255, 3, 5, 7, 15, 96}
}

// TestLoadOfTurned: each byte turned: nil, false, or a store whose Save is these bytes, and that is in order.
func TestLoadOfTurned(t *testing.T) {
	taken, refused := 0, 0
	for what, s := range stores(t) {
		b := s.Save()
		for i := range b {
			for _, x := range turns() {
				turned := slices.Clone(b)
				turned[i] ^= x
				other, ok := tablet.Load(turned)
				switch {
				case !ok && other == nil:
					refused++
				case !ok || other == nil || !bytes.Equal(other.Save(), turned):
					t.Fatalf("P10.2: %s, byte %d turned: % x: %v, %v", what, i, turned, other != nil, ok)
				default:
					taken++
					wantInOrder(t, fmt.Sprint(what, ", byte ", i, " turned"), other)
				}
			}
		}
	}
	if taken == 0 || refused < taken {
		t.Errorf("P10.2: of turned bytes %d are taken, %d refused", taken, refused)
	}
}

// TestTheSameForTheSame: however a store came to what it has.
func TestTheSameForTheSame(t *testing.T) {
	a := made(t, tab("", "m", 2), tab("m", "", 3))
	b := made(t, api.Tablet{Span: of("m", ""), Gen: 3, Group: 5}, tab("", "m", 2))
	a.Do(1, 1, mutate("a", with("x", 1, number(1)), with("y", 1, text("t"))))
	a.Do(2, 7, add("b", 3))
	a.Do(1, 2, get("b"))
	b.Do(1, 1, get("b"))
	b.Do(2, 3, mutate("a", with("y", 1, text("t")), with("z", 2, number(4))))
	b.Do(2, 3, add("zz", 9))
	b.Do(2, 4, mutate("zz", api.Change{Kind: api.DropRow}, plus("c", 1, 1)))
	b.Do(2, 6, mutate("a", with("x", 1, number(1)), api.Change{Kind: api.DropCol, Col: "z"}))
	b.Do(2, 7, add("b", 3))
	b.Do(1, 2, get("b"))
	a.Do(2, 4, add("zz", 1))
	if !bytes.Equal(a.Save(), b.Save()) {
		t.Errorf("P10.2: the same stores, other bytes: %s, %s", picture(a), picture(b))
	}
}

// TestSaveTellsAll: no two of these are the same.
func TestSaveTellsAll(t *testing.T) {
	seen := map[string]string{}
	for what, l := range map[string][]api.Command{
		"nothing is done":       nil,
		"a row":                 {add("a", 1)},
		"another row":           {add("b", 1)},
		"another number":        {add("a", 2)},
		"the other tablet":      {add("n", 1)},
		"a reply":               {get("a")},
		"a reply of the other":  {get("n")},
		"another reply":         {scan("a", "", 1)},
		"the first is frozen":   {freeze("", "m", 1)},
		"the second is frozen":  {freeze("m", "", 2)},
		"Last, ErrNone":         {split("x", "", 3, "y")},
		"another Last, ErrNone": {split("x", "", 4, "y")},
		"Last, ErrForm":         {install("x", "", 3, nil)},
		"Last, ErrBusy":         {install("x", "", 3, emptyState("x", ""))},
		"a Split":               {split("m", "", 3, "t")},
		"a Split elsewhere":     {split("m", "", 3, "u")},
		"a Split of the first":  {split("", "m", 3, "f")},
		"a Merge":               {merge("", "", 3, "m")},
		"one is not there":      {freeze("m", "", 2), retire("m", "", 2)},
	} {
		s := made(t, tab("", "m", 1), tab("m", "", 2))
		for _, c := range l {
			s.Do(1, 1, c)
		}
		if other, there := seen[string(s.Save())]; there {
			t.Errorf("P10.2: the same bytes of two stores: %s, %s", what, other)
		}
		seen[string(s.Save())] = what
	}
}

// TestLoadedGoesOn: as the first would, with Last's Code, caches and frozen ones.
func TestLoadedGoesOn(t *testing.T) {
	state := emptyState("x", "")
	for what, s := range stores(t) {
		other := loaded(t, what, s.Save())
		for i, c := range []api.Command{
			split("c", "n", s.Last(), "e"), install("x", "", s.Last()-1, state), get("a"), add("a", 1), get("n"), scan("", "", 9), freeze("m", "t", 3), freeze("", "", 1), retire("m", "", 2), retire("m", "t", 3),
			split("", "", s.Last()+1, "f"), merge("", "m", s.Last()+2, "c"), install("x", "", s.Last()+3, state), add("xx", 1), get("xx"),
		} {
			for seq := range 8 {
				who := fmt.Sprintf("P10.2: %s, loaded, command %d, number %d", what, i, seq)
				wantAnswer(t, who, other.Do(seq%3, seq, c), s.Do(seq%3, seq, c))
				wantSaved(t, who, other, s.Save())
			}
		}
	}
}

// TestLoadedIsByItself: what is done to the loaded one is not seen in the first, nor the other way round.
func TestLoadedIsByItself(t *testing.T) {
	s := busy(t)
	was := s.Save()
	other := loaded(t, "a store", was)
	other.Do(1, 9, add("a", 5))
	other.Do(1, 9, freeze("", "m", 1))
	wantSaved(t, "P10.2: the first, where the loaded one has changed", s, was)
	now := other.Save()
	s.Do(1, 10, drop("a"))
	s.Do(1, 9, split("", "m", 9, "f"))
	wantSaved(t, "P10.2: the loaded one, where the first has changed", other, now)
}

// TestLoadOfNoStore: bytes of the right form, of stores that no commands make.
func TestLoadOfNoStore(t *testing.T) {
	all, low, high := body{span: of("", ""), gen: 3}, body{span: of("", "m"), gen: 3}, body{span: of("m", ""), gen: 2}
	frozen := func(x body) body { x.frozen = 1; return x }
	odd := all
	odd.frozen = 2
	within := body{span: of("c", "d"), gen: 1}
	var l []body
	for _, x := range many(api.MaxTablets+1, 2) {
		l = append(l, body{span: x.Span, gen: x.Gen})
	}
	for _, x := range []struct {
		what string
		b    []byte
	}{
		{"Last below a Gen", saved(2, api.OK, all)},
		{"Last below a Gen, refused", saved(2, api.ErrNone, low)},
		{"Last above 2^30", saved(greatest+1, api.OK, within)},
		{"Last far above 2^30", saved(1<<32-1, api.OK)},
		{"Last 0, a tablet", saved(0, api.OK, all)},
		{"Last 0, refused", saved(0, api.ErrNone)},
		{"a refused Gen that a tablet has", saved(3, api.ErrNone, low, high)},
		{"a refused Gen that a tablet has, ErrForm", saved(3, api.ErrForm, all)},
		{"a refused Gen that a tablet has, ErrFull", saved(3, api.ErrFull, all)},
		{"Gen 1, ErrBusy", saved(1, api.ErrBusy)},
		{"Gen 1, ErrFull", saved(1, api.ErrFull)},
		{"a Code that Install, Split and Merge do not tell", saved(9, api.ErrOld, low, high)},
		{"ErrArg", saved(9, api.ErrArg, low, high)},
		{"Code 255", saved(9, 255, low, high)},
		{"no tablet of Last, nor room for it", saved(9, api.OK, low, high)},
		{"no tablet of Last, nor room for one more", saved(9, api.OK, l[:api.MaxTablets]...)},
		{"neither frozen nor not", saved(3, api.OK, odd)},
		{"too many", saved(2, api.OK, l...)},
		{"Los that fall", saved(3, api.OK, high, low)},
		{"one twice", saved(3, api.OK, low, low)},
		{"live ones that Meet", saved(3, api.OK, all, within)},
		{"a live and a frozen one that Meet", saved(3, api.OK, all, frozen(within))},
		{"a frozen and a live one that Meet", saved(3, api.OK, frozen(all), within)},
		{"frozen ones that Meet", saved(3, api.OK, frozen(all), frozen(within))},
	} {
		wantNoLoad(t, x.what, x.b)
	}
}

// TestLoadOfEdges: stores that commands make, and that are just not those of TestLoadOfNoStore.
func TestLoadOfEdges(t *testing.T) {
	low, high := body{span: of("", "m"), gen: 3}, body{span: of("m", ""), gen: 2}
	frozen := low
	frozen.frozen = 1
	var l []body
	for _, x := range many(api.MaxTablets, 2) {
		l = append(l, body{span: x.Span, gen: x.Gen})
	}
	for _, x := range []struct {
		what string
		b    []byte
		want string
	}{
		{"none", saved(0, api.OK), "0"},
		{"none, the first Gen was refused", saved(1, api.ErrForm), "1"},
		{"none, the second Gen was busy", saved(2, api.ErrBusy), "2"},
		{"none any more", saved(greatest, api.OK), fmt.Sprint(greatest)},
		{"Last is a Gen", saved(3, api.OK, low, high), "3 -m#3 m-#2"},
		{"Last was refused", saved(4, api.ErrFull, low, high), "4 -m#3 m-#2"},
		{"Last is not there any more", saved(9, api.OK, low), "9 -m#3"},
		{"one of Last is not there any more", saved(3, api.OK, frozen), "3 !-m#3"},
		{"MaxTablets", saved(2, api.OK, l...), "2" + strings.TrimPrefix(picture(made(t, many(api.MaxTablets, 2)...)), "2")},
	} {
		s := loaded(t, x.what, x.b)
		wantPicture(t, "P10.2: "+x.what, s, x.want)
		wantSaved(t, "P10.2: "+x.what, s, x.b)
	}
}
