package master_test

import (
	"bytes"
	"fmt"
	"math/rand"
	"slices"
	"testing"

	"wardmote/api"
	"wardmote/cmd"
	"wardmote/master"
	"wardmote/octet"
	"wardmote/span"
)

func loaded(t *testing.T, what string, b []byte) *master.Master {
	t.Helper()
	m, ok := master.Load(b)
	if !ok || m == nil {
		t.Fatalf("P12.2: %s: Load: %v, %v", what, m != nil, ok)
	}
	return m
}

func wantNoLoad(t *testing.T, what string, b []byte) {
	t.Helper()
	if m, ok := master.Load(b); ok || m != nil {
		t.Errorf("P12.2: %s: Load: %v, %v", what, m != nil, ok)
	}
}

func TestSaveAndLoad(t *testing.T) {
	for what, m := range masters(t) {
		b := m.Save()
		wantSaved(t, "P12.2: "+what+": Save twice", m, b)
		other := loaded(t, what, b)
		wantPicture(t, "P12.2: "+what+": Load of Save", other, picture(m))
		wantSaved(t, "P12.2: "+what+": Save of Load", other, b)
	}
}

// TestLoadedGoesOn: as the first would, in all that it is asked.
func TestLoadedGoesOn(t *testing.T) {
	for what, m := range masters(t) {
		other := loaded(t, what, m.Save())
		last := lastGen(m)
		for i, c := range []api.Command{
			which(), locate("m"), split("mm"), move("mm", 1), move("mm", 2), move("mm", 3), merge("m"), publish(last + 1), publish(last), which(),
			split("n"), split("nn"), publish(last + 1), merge("n"), leave(last + 2), merge("n"), publish(last + 2), move("", 2), which(), locate("n"),
		} {
			for j, who := range [][2]int{{maker, 1}, {maker, last}, {maker, last + i}, {0, 1}, {1, 7}, {1, 7 + i}, {mostClient, greatest}, {90 + i, 1}, {-1, 1}} {
				at := fmt.Sprintf("P12.2: %s, loaded, command %d, asked %d times", what, i, j)
				wantAnswer(t, at, other.Do(who[0], who[1], c), m.Do(who[0], who[1], c))
				wantPicture(t, at, other, picture(m))
				wantSaved(t, at, other, m.Save())
			}
		}
	}
}

// TestLoadedIsByItself: what is done to the loaded one is not seen in the first, nor the other way round.
func TestLoadedIsByItself(t *testing.T) {
	for what, m := range masters(t) {
		was, shown := m.Save(), picture(m)
		other := loaded(t, what, was)
		last := lastGen(m)
		stir := func(m *master.Master, from int) {
			for i, c := range []api.Command{publish(last), merge("m"), split("mm"), leave(last + 1), move("mm", 2), publish(last + 1), publish(last + 2)} {
				m.Do(7, from+i, c)
			}
		}
		stir(other, 1)
		wantPicture(t, "P12.2: "+what+", where the loaded one has changed", m, shown)
		wantSaved(t, "P12.2: "+what+", where the loaded one has changed", m, was)
		now := other.Save()
		stir(m, 100)
		wantSaved(t, "P12.2: "+what+", loaded, where the first has changed", other, now)
		wantSaved(t, "P12.2: "+what+", loaded once more", loaded(t, what, was), was)
	}
}

// TestLoadOfLess: cut off at each place, and with more behind it.
func TestLoadOfLess(t *testing.T) {
	for what, m := range masters(t) {
		b := m.Save()
		for i := range b {
			// The bytes behind the cut stand in the spare room: they must not be read.
			wantNoLoad(t, fmt.Sprint(what, ", the first ", i, " bytes"), b[:i])
			wantOwn(t, fmt.Sprint(what, ", all but the first ", i+1, " bytes"), b[i+1:])
		}
		for _, more := range []string{"\x00", "\x01", "\xff", "\x00\x00\x00\x00\x00\x00", string(b)} {
			wantNoLoad(t, fmt.Sprintf("%s, with %.9q behind it", what, more), slices.Concat(b, []byte(more)))
		}
	}
	wantNoLoad(t, "nil", nil)
	wantNoLoad(t, "no bytes", []byte{})
}

// wantOwn asks that b is no master's, or one's whose Save is b, and that is in order.
func wantOwn(t *testing.T, what string, b []byte) bool {
	t.Helper()
	m, ok := master.Load(b)
	if !ok || m == nil {
		if ok || m != nil {
			t.Errorf("P12.2: %s: Load: %v, %v", what, m != nil, ok)
		}
		return false
	}
	wantSaved(t, "P12.2: "+what+": what was loaded", m, b)
	wantInOrder(t, what, m)
	return true
}

// wantInOrder asks of a master, however it came, that its tablets cover all names, and that the plan under way is of its tablets, and newer than all.
func wantInOrder(t *testing.T, what string, m *master.Master) {
	t.Helper()
	var spans []api.Span
	newest := 0
	for _, x := range m.All() {
		spans = append(spans, x.Span)
		newest = max(newest, x.Gen)
		if x.Gen < 1 || x.Group < 1 || x.Group > maxGroups {
			t.Errorf("P12.3: %s: %s", what, picture(m))
		}
	}
	if !span.Cover(spans...) || len(spans) > maxTablets {
		t.Errorf("P12.3: %s: %s", what, picture(m))
	}
	a, busy := m.Pending()
	if busy && a.Gen <= newest {
		t.Errorf("P12.3: %s: the plan under way is not newer: %s", what, picture(m))
	}
	ask := m.Do(0, 0, which())
	if busy && !cmd.SameAnswer(ask, a) || !busy && !cmd.SameAnswer(ask, code(api.ErrNone)) {
		t.Errorf("P12.2: %s: Pending is %s, and Plan with Do 0 tells %s", what, show(a), show(ask))
	}
}

// TestLoadOfTurned: each byte turned to all that it may be.
func TestLoadOfTurned(t *testing.T) {
	taken, refused := 0, 0
	for what, m := range masters(t) {
		b := m.Save()
		for i := range b {
			for x := 1; x < 256; x++ {
				turned := slices.Clone(b)
				turned[i] ^= byte(x)
				if wantOwn(t, fmt.Sprint(what, ", byte ", i, " turned by ", x), turned) {
					taken++
				} else {
					refused++
				}
			}
		}
	}
	if taken < 100 || refused < taken {
		t.Errorf("P12.2: of turned bytes %d are taken, %d refused", taken, refused)
	}
}

// TestLoadOfAnyBytes: a few places turned, put in or left out, and bytes that were never saved.
func TestLoadOfAnyBytes(t *testing.T) {
	rnd := rand.New(rand.NewSource(12))
	var all [][]byte
	for _, what := range []string{"new, of three", "split", "a move is under way", "a merge is under way", "asked by many clients"} {
		all = append(all, masters(t)[what].Save())
	}
	taken := 0
	for range 30000 {
		b := slices.Clone(all[rnd.Intn(len(all))])
		for range 1 + rnd.Intn(3) {
			i := rnd.Intn(len(b))
			switch rnd.Intn(4) {
			case 0:
				b[i] = byte(rnd.Intn(4))
			case 1:
				b[i] = byte(rnd.Intn(256))
			case 2:
				b = slices.Insert(b, i, byte(rnd.Intn(3)))
			case 3:
				b = append(slices.Delete(b, i, i+1), 0)
			}
		}
		if wantOwn(t, "any bytes", b) {
			taken++
		}
		any := make([]byte, rnd.Intn(40))
		rnd.Read(any)
		wantOwn(t, "any bytes", any)
	}
	if taken < 100 {
		t.Errorf("hardly any bytes are a master's: %d", taken)
	}
}

// TestTheSameForTheSame: however a master came to what it has.
func TestTheSameForTheSame(t *testing.T) {
	a, b := made(t, 2), made(t, 2)
	a.Do(1, 1, split("m"))
	a.Do(1, 1, publish(2))
	a.Do(2, 3, split("z"))
	a.Do(1, 1, leave(3))
	a.Do(1, 4, merge(""))
	a.Do(3, 9, planned(api.DoMerge, "m", 7))
	b.Do(1, 1, move("m", 2))
	b.Do(2, 1, split("m"))
	b.Do(2, 1, leave(2))
	b.Do(2, 3, split("m"))
	b.Do(9, 9, publish(3))
	wantOther(t, "two that differ", a, b)

	b = made(t, 2)
	b.Do(1, 2, split("m"))
	b.Do(9, 9, publish(2))
	b.Do(2, 1, merge(""))
	b.Do(1, 3, split("k"))
	b.Do(2, 3, split("z"))
	wantOther(t, "two that differ still", a, b)

	b = made(t, 2)
	b.Do(1, 2, split("m"))
	b.Do(9, 9, publish(2))
	b.Do(9, 9, publish(2))
	b.Do(2, 2, merge(""))
	b.Do(2, 3, split("z"))
	b.Do(1, 3, split("k"))
	b.Do(9, 9, leave(3))
	b.Do(1, 4, move("m", 1))
	b.Do(3, 9, planned(api.DoMerge, "m", 2))
	wantSaved(t, "P12.2: the same, in another way", b, a.Save())
}

func wantOther(t *testing.T, what string, a, b *master.Master) {
	t.Helper()
	if bytes.Equal(a.Save(), b.Save()) {
		t.Errorf("P12.2: %s: the same bytes: %s, %s", what, picture(a), picture(b))
	}
}

// TestSaveTellsAll: no two of these are the same.
func TestSaveTellsAll(t *testing.T) {
	seen := map[string]string{}
	see := func(what string, m *master.Master) {
		t.Helper()
		if other, there := seen[string(m.Save())]; there {
			t.Errorf("P12.2: the same bytes of two masters: %s, %s", what, other)
		}
		seen[string(m.Save())] = what
	}
	for n := 1; n <= maxGroups; n++ {
		see(fmt.Sprint("new, of ", n), made(t, n))
	}
	for what, l := range map[string][]api.Command{
		"a refusal":                  {merge("")},
		"a split is under way":       {split("m")},
		"a split elsewhere":          {split("n")},
		"a move":                     {move("m", 2)},
		"a move of another name":     {move("n", 2)},
		"a move elsewhere":           {move("m", 3)},
		"a split, published":         {split("m"), publish(2)},
		"a split, given up":          {split("m"), leave(2)},
		"a move, published":          {move("m", 2), publish(2)},
		"a move, given up":           {move("m", 2), leave(2)},
		"a merge is under way":       {split("m"), publish(2), merge("m")},
		"a merge, published":         {split("m"), publish(2), merge("m"), publish(3)},
		"a merge, given up":          {split("m"), publish(2), merge("m"), leave(3)},
		"refused where one is there": {split("m"), merge("m")},
	} {
		m := made(t, 3)
		for i, c := range l {
			m.Do(1, i+1, c)
		}
		see(what, m)
		other := made(t, 3)
		for i, c := range l {
			other.Do(2, i+1, c)
		}
		see(what+", another client", other)
	}
	m := made(t, 3)
	m.Do(1, 2, merge(""))
	see("a refusal, another number", m)
}

// reply is what a cache has of a client.
type reply struct {
	client, seq int
	answer      api.Answer
}

// body is a master, whatever may be in it.
type body struct {
	groups, last int
	tablets      []api.Tablet
	replies      []reply
	do           int
	at           string
	to           int
}

// saved is what Save would write.
func (x body) saved(t *testing.T) []byte {
	t.Helper()
	w := octet.New()
	w.Byte(byte(x.groups))
	w.Num(uint32(x.last))
	w.Num(uint32(len(x.tablets)))
	for _, y := range x.tablets {
		span.Write(w, y.Span)
		w.Byte(byte(y.Group))
		w.Num(uint32(y.Gen))
	}
	w.Num(uint32(len(x.replies)))
	for _, y := range x.replies {
		w.Byte(byte(y.client))
		w.Num(uint32(y.seq))
		b, why := cmd.EncodeAnswer(y.answer)
		if why != api.OK {
			t.Fatalf("EncodeAnswer(%+v): %v", y.answer, why)
		}
		w.Text(b)
	}
	w.Byte(byte(x.do))
	w.Text([]byte(x.at))
	w.Byte(byte(x.to))
	return w.Done()
}
