package once_test

import (
	"slices"
	"testing"

	"wardmote/api"
	"wardmote/octet"
	"wardmote/once"
)

func fill(b []byte, x byte) {
	for i := range b {
		b[i] = x
	}
}

// withRoom is b in memory of its own with room behind it, and x in that room.
func withRoom(b []byte, x byte) []byte {
	own := make([]byte, len(b), len(b)+8)
	copy(own, b)
	fill(own[len(own):cap(own)], x)
	return own
}

// TestKeepLeavesAnswers: an answer that is handed in is not changed, its room neither read nor written, and nothing of it is kept.
func TestKeepLeavesAnswers(t *testing.T) {
	for _, text := range []string{"", "x", "an answer", string(make([]byte, 300))} {
		for _, seq := range []int{0, 4, 5, 6, lastSeq + 1} {
			c := made(t, entry{1, 5, "old"})
			want := []entry{{1, 5, "old"}}
			b := withRoom([]byte(text), 'r')
			was := slices.Clone(b[:cap(b)])
			if c.Keep(1, seq, b) {
				want = []entry{{1, seq, text}}
			}
			wantBytes(t, "R2: the answer that was handed in, and its room", b[:cap(b)], was)
			fill(b[:cap(b)], 'z')
			wantCache(t, "R2: the answer that was handed in is overwritten", c, want)
		}
	}
}

// TestKeepOfOneListTwice: two clients get the same list.
func TestKeepOfOneListTwice(t *testing.T) {
	b := []byte("same")
	c := once.New()
	c.Keep(1, 1, b)
	b[0] = 'g'
	c.Keep(2, 1, b)
	wantCache(t, "R2: Keep of one list twice", c, []entry{{1, 1, "same"}, {2, 1, "game"}})
}

// TestLookTellsNewMemory: what was told is overwritten, with its room: neither the cache nor another answer is touched.
func TestLookTellsNewMemory(t *testing.T) {
	for _, text := range []string{"", "x", "an answer", string(make([]byte, 300))} {
		c := made(t, entry{1, 5, text})
		copied, both := c.Copy(), once.Join(c, nil)
		first, _ := c.Look(1, 5)
		second, _ := c.Look(1, 5)
		fill(first[:cap(first)], 'z')
		wantBytes(t, "R2: another answer", second, []byte(text))
		for _, x := range []*once.Cache{c, copied, both} {
			b, _ := x.Look(1, 5)
			fill(b[:cap(b)], 'y')
		}
		for _, x := range []*once.Cache{c, copied, both} {
			wantCache(t, "R2: what was told is overwritten", x, []entry{{1, 5, text}})
		}
	}
}

// TestToldStays: the cache is changed, and what it had told is as it was.
func TestToldStays(t *testing.T) {
	c := made(t, entry{1, 5, "told"})
	b, _ := c.Look(1, 5)
	c.Keep(1, 6, []byte("next"))
	c.Keep(0, 1, []byte("ahead"))
	wantBytes(t, "R2: what was told", b, []byte("told"))
}

// TestTakeKeepsNothing: the bytes that are read, and the caches that were taken of them, are by themselves.
func TestTakeKeepsNothing(t *testing.T) {
	for _, l := range lists() {
		b := withRoom(slices.Concat(raw(l...), raw(l...)), 'r')
		was := slices.Clone(b[:cap(b)])
		var first, second *once.Cache
		octet.Read(b, func(r *octet.Reader) { first, second = once.Take(r), once.Take(r) })
		wantBytes(t, "R2: the bytes that are read, and their room", b[:cap(b)], was)
		fill(b[:cap(b)], 'z')
		wantCache(t, "R2: Take: the bytes are overwritten", first, l)
		wantCache(t, "R2: Take: the bytes are overwritten", second, l)
		wantApart(t, "R2: Take of two", first, second, l, l)
	}
}

// TestWriteKeepsNothing: what was written stays, whatever is done to the cache behind it, and the other way round.
func TestWriteKeepsNothing(t *testing.T) {
	for _, l := range lists() {
		c := made(t, l...)
		w := octet.New()
		c.Write(w)
		wantCache(t, "R2: the cache behind Write", c, l)
		b := w.Done()
		fill(b[:cap(b)], 'z')
		wantCache(t, "R2: the cache where its bytes are overwritten", c, l)
		for i := range lastClient + 1 {
			c.Keep(i, lastSeq, []byte("later"))
		}
		wantBytes(t, "R2: what Write wrote", w.Done(), raw(l...))
	}
}

// TestNilObjects: nil Writers and Readers, and Readers that have nothing.
func TestNilObjects(t *testing.T) {
	for _, l := range lists() {
		c := made(t, l...)
		c.Write(nil)
		wantCache(t, "R1: Write to a nil Writer", c, l)
		var kept *octet.Reader
		octet.Read(raw(l...), func(r *octet.Reader) { kept = r })
		if once.Take(kept) != nil {
			t.Error("R1: Take of a Reader whose Read has ended: not nil")
		}
	}
	if once.Take(nil) != nil {
		t.Error("R1: Take of a nil Reader: not nil")
	}
	if once.Take(&octet.Reader{}) != nil {
		t.Error("R1: Take of a zero Reader: not nil")
	}
}

// TestZeroValues: a zero Cache is as an empty one wherever it is handed in, a zero Writer as a new one.
func TestZeroValues(t *testing.T) {
	l := []entry{{1, 5, "x"}}
	c := made(t, l...)
	wantSame(t, "a zero one and one", &once.Cache{}, c, false)
	wantSame(t, "a zero one and an empty one", &once.Cache{}, once.New(), true)
	wantCache(t, "R1: Join with a zero one", once.Join(&once.Cache{}, c), l)
	wantCache(t, "R1: Join with a zero one", once.Join(c, &once.Cache{}), l)
	var w octet.Writer
	c.Write(&w)
	wantBytes(t, "R1: Write to a zero Writer", w.Done(), raw(l...))
}

// TestTakeGoesOnFailing: an f that catches the Reader's panic by itself gets no cache, and its Read is false.
func TestTakeGoesOnFailing(t *testing.T) {
	var c *once.Cache
	ok := octet.Read(raw(entry{2, 0, ""}), func(r *octet.Reader) {
		defer func() { recover() }()
		c = once.Take(r)
	})
	if ok || c != nil {
		t.Errorf("P9.1: Take where its panic is caught: a cache: %v, %v", c != nil, ok)
	}
}

// TestGreatCaches: all clients with long answers are written, read and copied.
func TestGreatCaches(t *testing.T) {
	c := once.New()
	answer := make([]byte, api.MaxBytes)
	for i := range 8 {
		fill(answer, byte(i))
		wantKeep(t, "a long answer", c, i*36, lastSeq, answer, true)
	}
	got, ok, _ := take(write(c))
	if !ok || !once.Same(got, c) || !once.Same(c.Copy(), c) || !once.Same(once.Join(c, got), c) {
		t.Errorf("P9.1: long answers of %d clients are not taken back: %v", c.Len(), ok)
	}
}
