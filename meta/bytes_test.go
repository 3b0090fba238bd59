package meta_test

import (
	"bytes"
	"math/rand"
	"slices"
	"testing"

	"wardmote/api"
	"wardmote/meta"
	"wardmote/octet"
)

func wantBytes(t *testing.T, what string, got, want []byte) {
	t.Helper()
	if !bytes.Equal(got, want) {
		t.Errorf("%s: % .60x, want % .60x", what, got, want)
	}
}

// write is what Write leaves in a Writer of these tables.
func write(l ...*meta.Table) []byte {
	w := octet.New()
	for _, m := range l {
		m.Write(w)
	}
	return w.Done()
}

// take is what Take takes of b, whether all of b was taken, and whether Take came to its end.
func take(b []byte) (m *meta.Table, ok, ended bool) {
	ok = octet.Read(b, func(r *octet.Reader) {
		m = meta.Take(r)
		ended = true
	})
	return m, ok, ended
}

func four(n int) []byte {
	return []byte{byte(n >> 24), byte(n >> 16), byte(n >> 8), byte(n)}
}

// raw writes as Write does, whatever may be in a table: neither meta nor octet is asked.
func raw(l ...api.Tablet) []byte {
	return rawCount(len(l), l...)
}

// rawCount tells n in the place of how many there are.
func rawCount(n int, l ...api.Tablet) []byte {
	b := four(n)
	for _, x := range l {
		b = slices.Concat(b, four(len(x.Span.Lo)), []byte(x.Span.Lo), four(len(x.Span.Hi)), []byte(x.Span.Hi), []byte{byte(x.Group)}, four(x.Gen))
	}
	return b
}

// lists are what tables may have, of each number.
func lists() [][]api.Tablet {
	l := [][]api.Tablet{{tab("", "", 0, 1)}, {tab("", "", maxGroup, maxGen)}, three(), cut(longest), cut("\x00"), cut("\x00", "\xff\xff")}
	for n := 1; n <= maxTablets; n++ {
		l = append(l, into(n))
	}
	return append(l, many(maxTablets))
}

func TestWrite(t *testing.T) {
	wantBytes(t, "P11.2: Write of one", write(made(t, tab("", "", 7, 258))), []byte("\x00\x00\x00\x01\x00\x00\x00\x00\x00\x00\x00\x00\x07\x00\x00\x01\x02"))
	two := made(t, tab("", "m", 255, 1<<30), tab("m", "", 0, 1))
	wantBytes(t, "P11.2: Write of two", write(two), []byte("\x00\x00\x00\x02\x00\x00\x00\x00\x00\x00\x00\x01m\xff\x40\x00\x00\x00\x00\x00\x00\x01m\x00\x00\x00\x00\x00\x00\x00\x00\x01"))
	w := octet.New()
	w.Byte(9)
	two.Write(w)
	two.Write(w)
	wantBytes(t, "P11.2: Write behind what was written", w.Done(), slices.Concat([]byte{9}, write(two), write(two)))
}

func TestBack(t *testing.T) {
	for _, l := range lists() {
		m := made(t, l...)
		wantBytes(t, "P11.2: Write", write(m), raw(l...))
		got, ok, _ := take(write(m))
		if !ok || !meta.Same(got, m) {
			t.Errorf("P11.2: Take of Write of %s: %v", show(l), ok)
			continue
		}
		wantTable(t, "P11.2: Take", got, l)
		wantBytes(t, "P11.2: Write of what was taken", write(got), write(m))
	}
}

// TestTakenIsATable: what was taken goes on taking others in.
func TestTakenIsATable(t *testing.T) {
	m, _, _ := take(raw(three()...))
	wantPut(t, "in what was taken", m, api.ErrArg, tab("g", "h", 1, 1))
	wantPut(t, "in what was taken", m, api.OK, tab("g", "", 9, 9))
	wantTable(t, "P11.1: Put behind Take", m, []api.Tablet{three()[0], tab("g", "", 9, 9)})
}

func wantFailed(t *testing.T, what string, b []byte) {
	t.Helper()
	m, ok, ended := take(b)
	if m != nil || ok || ended {
		t.Errorf("P11.2: Take of %d bytes, % .60x, %s: a table: %v, %v, gone on: %v", len(b), b, what, m != nil, ok, ended)
	}
}

func TestTakeOfWrongOnes(t *testing.T) {
	for _, x := range []struct {
		what string
		b    []byte
	}{
		{"nothing", nil},
		{"none", raw()},
		{"none, and bytes behind it", rawCount(0, three()...)},
		{"Gen 0", raw(tab("", "", 1, 0))},
		{"Gen 2^30 + 1", raw(tab("", "", 1, maxGen+1))},
		{"Gen 2^31 - 1", raw(tab("", "", 1, 1<<31-1))},
		{"Gen 2^31", raw(tab("", "", 1, 1<<31))},
		{"Gen 2^31 + 1", raw(tab("", "", 1, 1<<31+1))},
		{"Gen 2^32 - 1", raw(tab("", "", 1, 1<<32-1))},
		{"Gen 0 behind a right one", raw(tab("", "m", 1, 1), tab("m", "", 1, 0))},
		{"the empty name left out", raw(tab("\x00", "", 1, 1))},
		{"the last names left out", raw(tab("", "m", 1, 1))},
		{"a name between left out", raw(tab("", "m", 1, 1), tab("m\x00", "", 1, 1))},
		{"a name twice", raw(tab("", "m\x00", 1, 1), tab("m", "", 1, 1))},
		{"all names twice", raw(tab("", "", 1, 1), tab("", "", 1, 1))},
		{"two turned round", raw(tab("m", "", 1, 1), tab("", "m", 1, 1))},
		{"one twice", raw(tab("", "m", 1, 1), tab("", "m", 1, 1), tab("m", "", 1, 1))},
		{"one of no name", raw(tab("", "m", 1, 1), tab("m", "m", 1, 1), tab("m", "", 1, 1))},
		{"one that is not Right", raw(tab("b", "a", 1, 1))},
		{"cut at a name that is too long", raw(cut(tooLong)...)},
		{"one more than MaxTablets", raw(many(maxTablets + 1)...)},
		{"far more than MaxTablets", raw(many(1000)...)},
		{"a count of one more", rawCount(4, three()...)},
		{"a count of one less", rawCount(2, three()...)},
		{"a count of one, and nothing", rawCount(1)},
		{"a count of 2^32 - 1", rawCount(1<<32-1, three()...)},
		{"a count of 2^31", rawCount(1<<31, three()...)},
		{"a count of 2^24 + 3", rawCount(1<<24+3, three()...)},
		{"a count of 17 of 16", rawCount(maxTablets+1, many(maxTablets)...)},
		{"a count of 16 of 17", rawCount(maxTablets, many(maxTablets+1)...)},
	} {
		wantFailed(t, x.what, x.b)
		wantFailed(t, x.what+", in a place with room", withRoom(x.b, 0))
	}
}

func TestCutOff(t *testing.T) {
	for _, l := range lists() {
		all := write(made(t, l...))
		for at := range all {
			// The bytes behind the cut stand in the spare room: they must not be read.
			wantFailed(t, "cut off", all[:at])
		}
		for _, more := range []string{"\x00", "\x01", "behind", "\x00\x00\x00\x00"} {
			m, ok, ended := take(append(slices.Clone(all), more...))
			if ok || !ended || !meta.Same(m, made(t, l...)) {
				t.Errorf("P11.2: Take of %s and %d bytes more: %v, gone on: %v", show(l), len(more), ok, ended)
			}
		}
	}
}

// wantTaken asks for none, or for a table that may be, and whose Write is b.
func wantTaken(t *testing.T, what string, b []byte) bool {
	t.Helper()
	m, ok, ended := take(b)
	if !ended {
		if m != nil || ok {
			t.Errorf("P11.2: Take of % .60x, %s: it failed, a table: %v, %v", b, what, m != nil, ok)
		}
		return false
	}
	if m == nil {
		t.Errorf("P11.2: Take of % .60x, %s: nil, and it did not fail", b, what)
		return false
	}
	written := write(m)
	if len(written) > len(b) || !bytes.Equal(written, b[:len(written)]) || ok != (len(written) == len(b)) {
		t.Errorf("P11.2: Take of % .60x, %s: %v, and it is written as % .60x", b, what, ok, written)
	}
	if again, why := meta.New(m.All()...); why != api.OK || !meta.Same(again, m) {
		t.Errorf("P11.2: Take of % .60x, %s: New of its tablets: %v", b, what, why)
	}
	return ok
}

func TestTurned(t *testing.T) {
	taken := 0
	for _, l := range [][]api.Tablet{into(1), three(), cut(longest), into(5), many(maxTablets)} {
		b := write(made(t, l...))
		for i := range b {
			for range 256 {
				b[i]++
				if wantTaken(t, "one byte turned", b) {
					taken++
				}
			}
		}
	}
	if taken < 1000 {
		t.Errorf("hardly any bytes are a table's: %d", taken)
	}
}

// someBytes is what a Write gave, with a few places turned, put in or left out, or any bytes.
func someBytes(rnd *rand.Rand, all [][]api.Tablet) []byte {
	if rnd.Intn(10) == 0 {
		b := make([]byte, rnd.Intn(60))
		rnd.Read(b)
		return b
	}
	b := raw(all[rnd.Intn(len(all))]...)
	for range 1 + rnd.Intn(3) {
		i := rnd.Intn(len(b))
		switch rnd.Intn(4) {
		case 0:
			b[i] = byte(rnd.Intn(4))
		case 1:
			b[i] = byte(rnd.Intn(256))
		case 2:
			b = slices.Insert(b, i, byte(rnd.Intn(3)))
		case 3:
			b = append(slices.Delete(b, i, i+1), 0)
		}
	}
	return b
}

func TestAnyBytes(t *testing.T) {
	rnd := rand.New(rand.NewSource(11))
	all := lists()
	taken := 0
	for range 30000 {
		if wantTaken(t, "any bytes", someBytes(rnd, all)) {
			taken++
		}
	}
	if taken < 500 {
		t.Errorf("hardly any bytes are a table's: %d", taken)
	}
}

// TestManyInARow: what is taken is what was written once, and not a byte of the next one.
func TestManyInARow(t *testing.T) {
	var all []*meta.Table
	for _, l := range lists() {
		all = append(all, made(t, l...))
	}
	ok := octet.Read(write(all...), func(r *octet.Reader) {
		for i, m := range all {
			if !meta.Same(meta.Take(r), m) {
				t.Errorf("P11.2: Take, of many: table %d is another one", i)
			}
			if left := len(write(all[i+1:]...)); r.Left() != left {
				t.Errorf("P11.2: Take, of many: %d bytes are left, want %d", r.Left(), left)
			}
		}
	})
	if !ok {
		t.Error("P11.2: many that were written are not taken")
	}
}

func wantSame(t *testing.T, what string, a, b *meta.Table, want bool) {
	t.Helper()
	if meta.Same(a, b) != want || meta.Same(b, a) != want {
		t.Errorf("P11.2: Same, %s: %v, turned round: %v", what, meta.Same(a, b), meta.Same(b, a))
	}
}

// nextTo is another Gen that may be.
func nextTo(gen int) int {
	if gen > 1 {
		return gen - 1
	}
	return 2
}

func TestSame(t *testing.T) {
	for _, l := range lists() {
		m := made(t, l...)
		wantSame(t, "itself", m, m, true)
		wantSame(t, "made once more", m, made(t, l...), true)
		wantSame(t, "a copy", m, m.Copy(), true)
		for i := range l {
			other := slices.Clone(l)
			other[i].Group ^= 1
			wantSame(t, "one Group", m, made(t, other...), false)
			other = slices.Clone(l)
			other[i].Gen = nextTo(l[i].Gen)
			wantSame(t, "one Gen", m, made(t, other...), false)
		}
	}
	for n := 1; n <= maxTablets; n++ {
		for k := 1; k <= maxTablets; k++ {
			wantSame(t, "their number", made(t, into(n)...), made(t, into(k)...), n == k)
		}
	}
}

// TestSameOfOtherCuts: one Hi and the next Lo differ, at each place.
func TestSameOfOtherCuts(t *testing.T) {
	for n := 2; n <= maxTablets; n++ {
		for i := range n - 1 {
			l := many(n)
			l[i].Span.Hi += "x"
			l[i+1].Span.Lo += "x"
			wantSame(t, "one cut", made(t, many(n)...), made(t, l...), false)
		}
	}
}
