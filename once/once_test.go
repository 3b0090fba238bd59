package once_test

import (
	"fmt"
	"math"
	"slices"
	"strings"
	"testing"

	"wardmote/api"
	"wardmote/once"
)

// The edges that the document names.
const (
	lastClient = 255
	lastSeq    = 1 << 30
)

// entry is one client's number and answer.
type entry struct {
	client, seq int
	answer      string
}

func show(l []entry) string {
	s := "["
	for _, x := range l {
		s += fmt.Sprintf(" %d:%d:%.20q", x.client, x.seq, x.answer)
	}
	return s + " ]"
}

// made is a cache that has kept these, one behind the other.
func made(t *testing.T, l ...entry) *once.Cache {
	t.Helper()
	c := once.New()
	for _, x := range l {
		if !c.Keep(x.client, x.seq, []byte(x.answer)) {
			t.Fatalf("P9.1: Keep(%d, %d, %.20q): false", x.client, x.seq, x.answer)
		}
	}
	return c
}

func wantLook(t *testing.T, what string, c *once.Cache, client, seq int, answer string, kind int) {
	t.Helper()
	b, got := c.Look(client, seq)
	if string(b) != answer || got != kind {
		t.Errorf("%s: Look(%d, %d): %.20q (%d bytes), %d, want %.20q, %d", what, client, seq, b, len(b), got, answer, kind)
	}
}

// wantCache asks for these clients, numbers and answers, and for no others.
func wantCache(t *testing.T, what string, c *once.Cache, want []entry) {
	t.Helper()
	if c.Len() != len(want) {
		t.Errorf("%s: Len %d, want %s", what, c.Len(), show(want))
	}
	of := map[int]entry{}
	for _, x := range want {
		of[x.client] = x
	}
	for client := -1; client <= lastClient+1; client++ {
		wantLook(t, what, c, client, 0, "", once.Old)
		x, there := of[client]
		if !there {
			wantLook(t, what, c, client, 1, "", once.Fresh)
			continue
		}
		wantLook(t, what, c, client, x.seq-1, "", once.Old)
		wantLook(t, what, c, client, x.seq, x.answer, once.Again)
		wantLook(t, what, c, client, x.seq+1, "", once.Fresh)
	}
}

func TestNumbers(t *testing.T) {
	if once.Fresh != 1 || once.Again != 2 || once.Old != 3 {
		t.Errorf("P9.1: Fresh, Again, Old: %d, %d, %d", once.Fresh, once.Again, once.Old)
	}
}

func TestNew(t *testing.T) {
	wantCache(t, "P9.1: New", once.New(), nil)
	a, b := once.New(), once.New()
	a.Keep(1, 1, []byte("x"))
	wantCache(t, "P9.1: another New", b, nil)
}

// TestRuns: the chapter's run and examples.
func TestRuns(t *testing.T) {
	c := once.New()
	if !c.Keep(1, 5, []byte("x")) {
		t.Error("P9.1: the run: Keep(1, 5, x): false")
	}
	wantLook(t, "P9.1: the run", c, 1, 5, "x", once.Again)
	wantLook(t, "P9.1: the run", c, 1, 4, "", once.Old)
	wantLook(t, "P9.1: example 1", c, 1, 6, "", once.Fresh)
	if c.Keep(1, 4, []byte("y")) {
		t.Error("P9.1: example 2: Keep(1, 4) behind 5: true")
	}
	wantCache(t, "P9.1: behind the run", c, []entry{{1, 5, "x"}})
}

func TestLook(t *testing.T) {
	c := made(t, entry{1, 5, "one"}, entry{0, 1, "first"}, entry{lastClient, lastSeq, "last"}, entry{7, 3, ""})
	for _, x := range []struct {
		what        string
		client, seq int
		answer      string
		kind        int
	}{
		{"its number", 1, 5, "one", once.Again},
		{"one below", 1, 4, "", once.Old},
		{"far below", 1, 1, "", once.Old},
		{"one above", 1, 6, "", once.Fresh},
		{"far above", 1, lastSeq, "", once.Fresh},
		{"above 2^30", 1, lastSeq + 1, "", once.Fresh},
		{"the greatest int", 1, math.MaxInt, "", once.Fresh},
		{"seq 0", 1, 0, "", once.Old},
		{"seq -1", 1, -1, "", once.Old},
		{"its number below 0", 1, -5, "", once.Old},
		{"the least int", 1, math.MinInt, "", once.Old},
		{"client 0, its number", 0, 1, "first", once.Again},
		{"client 0, seq 0", 0, 0, "", once.Old},
		{"client 0, one above", 0, 2, "", once.Fresh},
		{"client 255, its number", 255, lastSeq, "last", once.Again},
		{"client 255, one below", 255, lastSeq - 1, "", once.Old},
		{"client 255, one above", 255, lastSeq + 1, "", once.Fresh},
		{"an empty answer", 7, 3, "", once.Again},
		{"an empty answer, one below", 7, 2, "", once.Old},
		{"an empty answer, one above", 7, 4, "", once.Fresh},
		{"no number", 2, 1, "", once.Fresh},
		{"no number, another's", 2, 5, "", once.Fresh},
		{"no number, 2^30", 2, lastSeq, "", once.Fresh},
		{"no number, above 2^30", 2, lastSeq + 1, "", once.Fresh},
		{"no number, seq 0", 2, 0, "", once.Old},
		{"no number, seq -1", 2, -1, "", once.Old},
		{"client -1", -1, 1, "", once.Fresh},
		{"client -1, the last one's number", -1, lastSeq, "", once.Fresh},
		{"client -1, seq 0", -1, 0, "", once.Old},
		{"client 256", 256, 1, "", once.Fresh},
		{"client 256, seq 0", 256, 0, "", once.Old},
		{"client 257, as client 1 in one byte", 257, 5, "", once.Fresh},
		{"client -255, as client 1 in one byte", -255, 5, "", once.Fresh},
		{"the least client", math.MinInt, 1, "", once.Fresh},
		{"the least client, seq 0", math.MinInt, 0, "", once.Old},
		{"the greatest client", math.MaxInt, 1, "", once.Fresh},
	} {
		wantLook(t, "P9.1: "+x.what, c, x.client, x.seq, x.answer, x.kind)
	}
	wantCache(t, "P9.1: Look changes nothing", c, []entry{{0, 1, "first"}, {1, 5, "one"}, {7, 3, ""}, {lastClient, lastSeq, "last"}})
}

// TestLookTellsBytes: all bytes, as they were kept.
func TestLookTellsBytes(t *testing.T) {
	var every []byte
	for i := range 256 {
		every = append(every, byte(i))
	}
	for i, answer := range []string{"", "\x00", "\x00\x00", "\xff\xfe", "a\x00b", "\xc3\x28 no rune", string(every), strings.Repeat("long", 5000)} {
		c := made(t, entry{i, i + 1, answer})
		wantCache(t, "P9.1: the bytes that were kept", c, []entry{{i, i + 1, answer}})
	}
}

func wantKeep(t *testing.T, what string, c *once.Cache, client, seq int, answer []byte, want bool) {
	t.Helper()
	if got := c.Keep(client, seq, answer); got != want {
		t.Errorf("P9.1: %s: Keep(%d, %d, %.20q): %v", what, client, seq, answer, got)
	}
}

func TestKeep(t *testing.T) {
	for _, x := range []struct {
		what        string
		client, seq int
		answer      string
	}{
		{"client 0", 0, 3, "a"},
		{"client 1", 1, 3, "a"},
		{"client 254", 254, 3, "a"},
		{"client 255", 255, 3, "a"},
		{"seq 1", 4, 1, "a"},
		{"seq 2", 4, 2, "a"},
		{"seq 2^30", 4, lastSeq, "a"},
		{"no answer", 4, 3, ""},
		{"an answer of MaxBytes", 4, 3, strings.Repeat("m", api.MaxBytes)},
	} {
		c := once.New()
		wantKeep(t, x.what, c, x.client, x.seq, []byte(x.answer), true)
		wantCache(t, "P9.1: Keep, "+x.what, c, []entry{{x.client, x.seq, x.answer}})
	}
	c := once.New()
	wantKeep(t, "a nil answer", c, 4, 3, nil, true)
	wantCache(t, "P9.1: Keep of a nil answer", c, []entry{{4, 3, ""}})
}

// TestKeepRefuses: of an empty cache and of one that has something, which stay as they were.
func TestKeepRefuses(t *testing.T) {
	long := make([]byte, api.MaxBytes+1)
	for _, x := range []struct {
		what        string
		client, seq int
		answer      []byte
	}{
		{"client -1", -1, 9, nil},
		{"client 256", 256, 9, nil},
		{"client 257, as client 1 in one byte", 257, 9, nil},
		{"client -255, as client 1 in one byte", -255, 9, nil},
		{"the least client", math.MinInt, 9, nil},
		{"the greatest client", math.MaxInt, 9, nil},
		{"seq 0", 1, 0, nil},
		{"seq 0, a client with no number", 2, 0, nil},
		{"seq -1", 1, -1, nil},
		{"seq -1, a client with no number", 2, -1, nil},
		{"the least seq", 2, math.MinInt, nil},
		{"seq above 2^30", 1, lastSeq + 1, nil},
		{"seq above 2^30, a client with no number", 2, lastSeq + 1, nil},
		{"the greatest seq", 2, math.MaxInt, nil},
		{"an answer that is too long", 1, 9, long},
		{"an answer that is too long, a client with no number", 2, 9, long},
		{"all of it", 256, 0, long},
	} {
		empty := once.New()
		wantKeep(t, x.what+", of an empty cache", empty, x.client, x.seq, x.answer, false)
		wantCache(t, "R3: Keep, "+x.what, empty, nil)
		has := []entry{{0, 5, "zero"}, {1, 5, "one"}, {lastClient, 5, "last"}}
		c := made(t, has...)
		wantKeep(t, x.what, c, x.client, x.seq, x.answer, false)
		wantCache(t, "R3: Keep, "+x.what, c, has)
	}
}

// TestKeepOfANumber: a number that is the client's, below it, above it.
func TestKeepOfANumber(t *testing.T) {
	for _, x := range []struct {
		what string
		seq  int
		kept bool
	}{
		{"its number", 5, false},
		{"one below", 4, false},
		{"far below", 1, false},
		{"one above", 6, true},
		{"far above", 1000, true},
		{"2^30", lastSeq, true},
	} {
		for _, answer := range []string{"x", "other", ""} {
			c := made(t, entry{1, 5, "x"}, entry{2, 7, "y"})
			want := []entry{{1, 5, "x"}, {2, 7, "y"}}
			wantKeep(t, x.what, c, 1, x.seq, []byte(answer), x.kept)
			if x.kept {
				want[0] = entry{1, x.seq, answer}
			}
			wantCache(t, "P9.1: Keep, "+x.what, c, want)
		}
	}
	c := made(t, entry{1, lastSeq, "x"})
	wantKeep(t, "the highest number again", c, 1, lastSeq, nil, false)
	wantKeep(t, "above the highest number", c, 1, lastSeq+1, nil, false)
	wantCache(t, "P9.1: Keep behind the highest number", c, []entry{{1, lastSeq, "x"}})
}

// TestKeepWhileFresh: Keep of what may be kept is true where Look tells Fresh, and there alone.
func TestKeepWhileFresh(t *testing.T) {
	for _, client := range []int{0, 1, 3, lastClient} {
		for _, seq := range []int{1, 2, 3, 4, 5, lastSeq - 1, lastSeq} {
			c := made(t, entry{0, 3, "a"}, entry{3, 1, "b"}, entry{lastClient, lastSeq - 1, "c"})
			_, kind := c.Look(client, seq)
			wantKeep(t, "as Look tells", c, client, seq, []byte("new"), kind == once.Fresh)
			if kind == once.Fresh {
				wantLook(t, "P9.1: behind Keep", c, client, seq, "new", once.Again)
			}
		}
	}
}

// TestLen: behind each Keep, whether it kept or not.
func TestLen(t *testing.T) {
	c := once.New()
	for i, x := range []struct{ client, seq, want int }{
		{9, 1, 1}, {9, 1, 1}, {9, 2, 1}, {9, 1, 1}, {3, 0, 1}, {3, 1, 2}, {256, 1, 2}, {-1, 1, 2},
		{0, lastSeq, 3}, {0, lastSeq + 1, 3}, {255, 7, 4}, {255, 9, 4}, {4, lastSeq + 1, 4},
	} {
		c.Keep(x.client, x.seq, nil)
		if c.Len() != x.want {
			t.Errorf("P9.1: Len behind Keep %d: %d, want %d", i, c.Len(), x.want)
		}
	}
}

// everyone is one entry of each client, by rising clients.
func everyone() []entry {
	var l []entry
	for i := range lastClient + 1 {
		l = append(l, entry{i, 1 + i*i, fmt.Sprint("told ", i)})
	}
	return l
}

// orders are orders of l: rising, falling, and from the midst on.
func orders(l []entry) [][]entry {
	falling := slices.Clone(l)
	slices.Reverse(falling)
	n := len(l) / 2
	var leaping []entry
	for i := range l {
		leaping = append(leaping, l[(i*7+n)%len(l)])
	}
	return [][]entry{l, falling, slices.Concat(l[n:], l[:n]), leaping}
}

// TestAllClients: all 256 have a number each, in whatever order they came.
func TestAllClients(t *testing.T) {
	for _, l := range orders(everyone()) {
		c := once.New()
		for i, x := range l {
			wantKeep(t, "all clients", c, x.client, x.seq, []byte(x.answer), true)
			if c.Len() != i+1 {
				t.Errorf("P9.1: Len of %d clients: %d", i+1, c.Len())
			}
		}
		wantCache(t, "P9.1: all clients", c, everyone())
		for _, x := range l {
			wantKeep(t, "all clients again", c, x.client, x.seq, nil, false)
		}
		wantCache(t, "P9.1: all clients again", c, everyone())
	}
}
