package once_test

import (
	"fmt"
	"maps"
	"math/rand"
	"slices"
	"testing"

	"wardmote/once"
)

// model has entries by clients, as the document's words have them.
type model map[int]entry

func (m model) look(client, seq int) (string, int) {
	x, there := m[client]
	switch {
	case there && seq == x.seq:
		return x.answer, once.Again
	case seq < 1 || there && seq < x.seq:
		return "", once.Old
	}
	return "", once.Fresh
}

func (m model) keep(client, seq int, answer string) bool {
	_, kind := m.look(client, seq)
	if client < 0 || client > 255 || seq < 1 || seq > 1<<30 || len(answer) > 1<<20 || kind != once.Fresh {
		return false
	}
	m[client] = entry{client, seq, answer}
	return true
}

func (m model) list() []entry {
	var l []entry
	for _, client := range slices.Sorted(maps.Keys(m)) {
		l = append(l, m[client])
	}
	return l
}

func (m model) join(other model) model {
	both := model{}
	for _, x := range joined(m.list(), other.list()) {
		both[x.client] = x
	}
	return both
}

func someClient(rnd *rand.Rand) int {
	switch rnd.Intn(20) {
	case 0:
		return []int{-1, 0, 255, 256, 257, -256}[rnd.Intn(6)]
	case 1, 2:
		return rnd.Intn(256)
	}
	return rnd.Intn(6)
}

func someSeq(rnd *rand.Rand) int {
	switch rnd.Intn(30) {
	case 0:
		return []int{-1, 0, 1, 1 << 30, 1<<30 + 1}[rnd.Intn(5)]
	case 1:
		return rnd.Intn(1000)
	}
	return rnd.Intn(30)
}

// pair is a cache, and what it is to be.
type pair struct {
	c *once.Cache
	m model
}

func (p *pair) keep(t *testing.T, rnd *rand.Rand) bool {
	t.Helper()
	client, seq, answer := someClient(rnd), someSeq(rnd), fmt.Sprint(rnd.Intn(1000))[rnd.Intn(2):]
	want, kind := p.m.look(client, seq)
	wantLook(t, "P9.1: many steps", p.c, client, seq, want, kind)
	kept := p.m.keep(client, seq, answer)
	wantKeep(t, "many steps", p.c, client, seq, []byte(answer), kept)
	return kept
}

// step does one thing, of any kind, to p, or to it and another one.
func (p *pair) step(t *testing.T, rnd *rand.Rand, other *pair, kept map[bool]int) {
	t.Helper()
	switch rnd.Intn(20) {
	case 0:
		p.c, p.m = once.Join(p.c, other.c), p.m.join(other.m)
	case 1:
		p.c = p.c.Copy()
	case 2:
		c, ok, _ := take(write(p.c))
		if !ok {
			t.Fatalf("P9.1: many steps: Take of Write of %s: false", show(p.m.list()))
		}
		p.c = c
	default:
		kept[p.keep(t, rnd)]++
	}
}

func TestManySteps(t *testing.T) {
	rnd := rand.New(rand.NewSource(9))
	kept := map[bool]int{}
	for range 60 {
		a, b := &pair{once.New(), model{}}, &pair{once.New(), model{}}
		for range 120 {
			a.step(t, rnd, b, kept)
			wantCache(t, "P9.1: many steps", a.c, a.m.list())
			wantCache(t, "P9.1: many steps: the other one", b.c, b.m.list())
			wantBytes(t, "P9.1: many steps: Write", write(a.c), raw(a.m.list()...))
			wantSame(t, "many steps", a.c, b.c, maps.Equal(a.m, b.m))
			a, b = b, a
		}
	}
	if kept[true] < 500 || kept[false] < 500 {
		t.Errorf("the steps hardly keep, or hardly refuse: %v", kept)
	}
}

// TestOnce: (W1) of each client's requests, in whatever order they come and how often, each is kept at most once, and none behind a greater one.
func TestOnce(t *testing.T) {
	rnd := rand.New(rand.NewSource(10))
	for range 200 {
		c := once.New()
		done := map[[2]int]int{}
		for range 100 {
			client, seq := rnd.Intn(3), 1+rnd.Intn(12)
			if _, kind := c.Look(client, seq); kind != once.Fresh {
				continue
			}
			wantKeep(t, "what is Fresh", c, client, seq, nil, true)
			done[[2]int{client, seq}]++
			for later := seq + 1; later <= 12; later++ {
				if done[[2]int{client, later}] > 0 {
					t.Errorf("W1: number %d of client %d is done behind %d", seq, client, later)
				}
			}
		}
		for which, n := range done {
			if n != 1 {
				t.Errorf("W1: number %d of client %d is done %d times", which[1], which[0], n)
			}
		}
	}
}
