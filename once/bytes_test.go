package once_test

import (
	"bytes"
	"math/rand"
	"slices"
	"strings"
	"testing"

	"wardmote/api"
	"wardmote/octet"
	"wardmote/once"
)

func wantBytes(t *testing.T, what string, got, want []byte) {
	t.Helper()
	if !bytes.Equal(got, want) {
		t.Errorf("%s: % .60x, want % .60x", what, got, want)
	}
}

// write is what Write leaves in a Writer of these caches.
func write(l ...*once.Cache) []byte {
	w := octet.New()
	for _, c := range l {
		c.Write(w)
	}
	return w.Done()
}

// take is what Take takes of b, whether all of b was taken, and whether Take came to its end.
func take(b []byte) (c *once.Cache, ok, ended bool) {
	ok = octet.Read(b, func(r *octet.Reader) {
		c = once.Take(r)
		ended = true
	})
	return c, ok, ended
}

func four(n int) []byte {
	return []byte{byte(n >> 24), byte(n >> 16), byte(n >> 8), byte(n)}
}

// raw writes by the document's words, whatever may be in a cache: neither once nor octet is asked.
func raw(l ...entry) []byte {
	return rawCount(len(l), l...)
}

// rawCount tells n in the place of how many there are.
func rawCount(n int, l ...entry) []byte {
	b := four(n)
	for _, x := range l {
		b = append(b, byte(x.client))
		b = append(b, four(x.seq)...)
		b = append(b, four(len(x.answer))...)
		b = append(b, x.answer...)
	}
	return b
}

// cursor reads bytes by the document's words, without octet; it is bad where no Write gave them.
type cursor struct {
	b   []byte
	bad bool
}

// number is one of these bytes; it is bad outside of least and most.
func (c *cursor) number(size, least, most int) int {
	if c.bad = c.bad || len(c.b) < size; c.bad {
		return 0
	}
	n := 0
	for _, x := range c.b[:size] {
		n = n*256 + int(x)
	}
	c.b = c.b[size:]
	if c.bad = n < least || n > most; c.bad {
		return 0
	}
	return n
}

func (c *cursor) text() string {
	n := c.number(4, 0, 1<<20)
	if c.bad = c.bad || len(c.b) < n; c.bad {
		return ""
	}
	s := string(c.b[:n])
	c.b = c.b[n:]
	return s
}

// entriesOf is what b has, and whether a Write gave all of b.
func entriesOf(b []byte) ([]entry, bool) {
	c := cursor{b: b}
	var l []entry
	least := 0
	for range c.number(4, 0, 256) {
		x := entry{c.number(1, least, 255), c.number(4, 1, 1<<30), c.text()}
		if c.bad {
			return nil, false
		}
		least = x.client + 1
		l = append(l, x)
	}
	return l, !c.bad && len(c.b) == 0
}

func TestWrite(t *testing.T) {
	for _, x := range []struct {
		what string
		l    []entry
		want string
	}{
		{"nothing", nil, "\x00\x00\x00\x00"},
		{"one", []entry{{7, 258, "x"}}, "\x00\x00\x00\x01\x07\x00\x00\x01\x02\x00\x00\x00\x01x"},
		{"an empty answer", []entry{{2, 1, ""}}, "\x00\x00\x00\x01\x02\x00\x00\x00\x01\x00\x00\x00\x00"},
		{"the edges", []entry{{0, 1, "\x00"}, {255, 1 << 30, "\xff\x00"}}, "\x00\x00\x00\x02\x00\x00\x00\x00\x01\x00\x00\x00\x01\x00\xff\x40\x00\x00\x00\x00\x00\x00\x02\xff\x00"},
		{"by rising clients", []entry{{7, 258, "x"}, {2, 1, ""}, {200, 3, "yz"}}, "\x00\x00\x00\x03\x02\x00\x00\x00\x01\x00\x00\x00\x00\x07\x00\x00\x01\x02\x00\x00\x00\x01x\xc8\x00\x00\x00\x03\x00\x00\x00\x02yz"},
		{"the last number alone", []entry{{7, 1, "old"}, {7, 2, "new"}}, "\x00\x00\x00\x01\x07\x00\x00\x00\x02\x00\x00\x00\x03new"},
	} {
		wantBytes(t, "P9.1: Write of "+x.what, write(made(t, x.l...)), []byte(x.want))
	}
	w := octet.New()
	w.Byte(9)
	made(t, entry{2, 1, "a"}).Write(w)
	once.New().Write(w)
	wantBytes(t, "P9.1: Write behind what was written", w.Done(), []byte("\x09\x00\x00\x00\x01\x02\x00\x00\x00\x01\x00\x00\x00\x01a\x00\x00\x00\x00"))
}

// TestWriteInAnyOrder: the same bytes, in whatever order the clients came.
func TestWriteInAnyOrder(t *testing.T) {
	for _, l := range orders(everyone()) {
		wantBytes(t, "P9.1: Write of all clients", write(made(t, l...)), raw(everyone()...))
	}
}

// longest has an answer of MaxBytes.
func longest() []entry {
	return []entry{{1, 2, strings.Repeat("m", api.MaxBytes)}, {2, 3, "behind it"}}
}

func TestBack(t *testing.T) {
	for _, l := range append(lists(), longest()) {
		c := made(t, l...)
		wantBytes(t, "P9.1: Write", write(c), raw(l...))
		got, ok, _ := take(write(c))
		if !ok || !once.Same(got, c) {
			t.Errorf("P9.1: Take of Write of %s: %v", show(l), ok)
			continue
		}
		wantCache(t, "P9.1: Take", got, l)
		wantBytes(t, "P9.1: Write of what was taken", write(got), raw(l...))
	}
}

// TestTakenIsACache: what was taken goes on keeping.
func TestTakenIsACache(t *testing.T) {
	c, _, _ := take(raw(entry{1, 5, "x"}, entry{3, 7, "y"}))
	wantKeep(t, "of what was taken", c, 1, 5, nil, false)
	wantKeep(t, "of what was taken", c, 3, 8, []byte("z"), true)
	wantKeep(t, "of what was taken", c, 2, 1, []byte("new"), true)
	wantCache(t, "P9.1: Keep behind Take", c, []entry{{1, 5, "x"}, {2, 1, "new"}, {3, 8, "z"}})
}

func wantFailed(t *testing.T, what string, b []byte) {
	t.Helper()
	c, ok, ended := take(b)
	if c != nil || ok || ended {
		t.Errorf("P9.1: Take of %d bytes, % .60x, %s: a cache: %v, %v, gone on: %v", len(b), b, what, c != nil, ok, ended)
	}
}

func TestTakeOfWrongOnes(t *testing.T) {
	tooLong := strings.Repeat("m", api.MaxBytes+1)
	for _, x := range []struct {
		what string
		b    []byte
	}{
		{"nothing", nil},
		{"number 0", raw(entry{2, 0, ""})},
		{"number 0 behind a right one", raw(entry{1, 1, "a"}, entry{2, 0, "b"})},
		{"number 0 ahead of a right one", raw(entry{1, 0, "a"}, entry{2, 1, "b"})},
		{"a number above 2^30", raw(entry{2, lastSeq + 1, ""})},
		{"number 2^31 - 1", raw(entry{2, 1<<31 - 1, ""})},
		{"number 2^31", raw(entry{2, 1 << 31, ""})},
		{"number 2^31 + 5", raw(entry{2, 1<<31 + 5, ""})},
		{"number 2^32 - 1", raw(entry{2, 1<<32 - 1, ""})},
		{"a client twice", raw(entry{2, 1, "a"}, entry{2, 2, "b"})},
		{"a client twice, the lower number behind", raw(entry{2, 2, "a"}, entry{2, 1, "b"})},
		{"the same one twice", raw(entry{2, 1, "a"}, entry{2, 1, "a"})},
		{"client 0 twice", raw(entry{0, 1, ""}, entry{0, 2, ""})},
		{"client 255 twice", raw(entry{255, 1, ""}, entry{255, 2, ""})},
		{"falling clients", raw(entry{3, 1, "a"}, entry{2, 1, "b"})},
		{"falling behind the second", raw(entry{1, 1, "a"}, entry{3, 1, "b"}, entry{2, 1, "c"})},
		{"the first one again", raw(entry{1, 1, "a"}, entry{3, 1, "b"}, entry{1, 2, "c"})},
		{"an answer that is too long", raw(entry{2, 1, tooLong})},
		{"an answer that is too long behind a right one", raw(entry{1, 1, "a"}, entry{2, 1, tooLong})},
		{"an answer of 2^32 - 1", slices.Concat(four(1), []byte{2}, four(1), four(1<<32-1))},
		{"a count of one more", rawCount(2, entry{2, 1, "a"})},
		{"a count of one, and nothing", rawCount(1)},
		{"a count of 257", rawCount(257, append(everyone(), entry{0, lastSeq, ""})...)},
		{"a count of 257 of rising ones", rawCount(257, everyone()...)},
		{"a count of 2^32 - 1", rawCount(1<<32-1, everyone()...)},
		{"a count of 2^31", rawCount(1<<31, everyone()...)},
		{"a count of 2^24", rawCount(1<<24, everyone()...)},
	} {
		wantFailed(t, x.what, x.b)
		wantFailed(t, x.what+", in a place with room", withRoom(x.b, 0))
	}
}

// TestTooGreatCounts: a count that is too great fails also where as many bytes are there as it asks.
func TestTooGreatCounts(t *testing.T) {
	var l []entry
	for i := range 1024 {
		l = append(l, entry{i, 1 + i, ""})
	}
	for _, n := range []int{257, 258, 512, 1024} {
		wantFailed(t, "too many clients", raw(l[:n]...))
	}
	if _, ok, _ := take(raw(l[:256]...)); !ok {
		t.Error("P9.1: 256 clients are not taken")
	}
}

func TestCutOff(t *testing.T) {
	for _, l := range lists() {
		all := raw(l...)
		for cut := range all {
			// The bytes behind the cut stand in the spare room: they must not be read.
			wantFailed(t, "cut off", all[:cut])
		}
		for _, more := range []string{"\x00", "\x01", "behind", "\x00\x00\x00\x00"} {
			c, ok, ended := take(append(slices.Clone(all), more...))
			if ok || !ended || !once.Same(c, made(t, l...)) {
				t.Errorf("P9.1: Take of %s and %d bytes more: %v, gone on: %v", show(l), len(more), ok, ended)
			}
		}
	}
}

// wantTaken holds what is taken of b against entriesOf.
func wantTaken(t *testing.T, what string, b []byte) bool {
	t.Helper()
	want, right := entriesOf(b)
	c, ok, _ := take(b)
	if ok != right || ok && !bytes.Equal(write(c), b) {
		t.Errorf("P9.1: Take of % .60x, %s: %v, want %s, %v", b, what, ok, show(want), right)
	}
	return right
}

func TestTurned(t *testing.T) {
	for _, l := range lists()[:9] {
		b := raw(l...)
		for i := range b {
			for range 256 {
				b[i]++
				wantTaken(t, "one byte turned", b)
			}
		}
	}
	b := raw(everyone()...)
	for i := range b {
		b[i] ^= 1
		wantTaken(t, "one bit turned", b)
		b[i] ^= 1
	}
}

// someBytes is what a Write gave, with a few places turned, put in or left out.
func someBytes(rnd *rand.Rand) []byte {
	all := lists()[:9]
	b := raw(all[rnd.Intn(len(all))]...)
	for range 1 + rnd.Intn(3) {
		i := rnd.Intn(len(b))
		switch rnd.Intn(4) {
		case 0:
			b[i] = byte(rnd.Intn(4))
		case 1:
			b[i] = byte(rnd.Intn(256))
		case 2:
			b = slices.Insert(b, i, byte(rnd.Intn(3)))
		case 3:
			b = append(slices.Delete(b, i, i+1), 0)
		}
	}
	return b
}

func TestAnyBytes(t *testing.T) {
	rnd := rand.New(rand.NewSource(9))
	right := 0
	for range 30000 {
		if wantTaken(t, "any bytes", someBytes(rnd)) {
			right++
		}
	}
	if right < 500 {
		t.Errorf("hardly any bytes are a cache's: %d", right)
	}
}

// TestManyInARow: what is taken is what was written once, and not a byte of the next one.
func TestManyInARow(t *testing.T) {
	var all []*once.Cache
	for _, l := range lists() {
		all = append(all, made(t, l...))
	}
	ok := octet.Read(write(all...), func(r *octet.Reader) {
		for i, c := range all {
			if !once.Same(once.Take(r), c) {
				t.Errorf("P9.1: Take, of many: cache %d is another one", i)
			}
			if left := len(write(all[i+1:]...)); r.Left() != left {
				t.Errorf("P9.1: Take, of many: %d bytes are left, want %d", r.Left(), left)
			}
		}
	})
	if !ok {
		t.Error("P9.1: many that were written are not taken")
	}
}
