package once_test

import (
	"slices"
	"testing"

	"wardmote/once"
)

// wantApart changes each of two caches, and asks that the other one stays.
func wantApart(t *testing.T, what string, a, b *once.Cache, as, bs []entry) {
	t.Helper()
	fresh := []entry{{0, lastSeq, "0!"}, {5, lastSeq, "5!"}, {lastClient, lastSeq, "255!"}}
	for _, x := range fresh {
		a.Keep(x.client, x.seq, []byte(x.answer))
	}
	wantCache(t, what+": the second, where the first has changed", b, bs)
	as = joined(as, fresh)
	for i := range lastClient + 1 {
		b.Keep(i, lastSeq, []byte("b"))
	}
	wantCache(t, what+": the first, where the second has changed", a, as)
}

// joined is, by the document's words, what a Join of caches of these has.
func joined(a, b []entry) []entry {
	var l []entry
	for client := range lastClient + 1 {
		i := slices.IndexFunc(a, func(x entry) bool { return x.client == client })
		k := slices.IndexFunc(b, func(x entry) bool { return x.client == client })
		switch {
		case i < 0 && k < 0:
		case k < 0 || i >= 0 && a[i].seq >= b[k].seq:
			l = append(l, a[i])
		default:
			l = append(l, b[k])
		}
	}
	return l
}

// lists are what the tests of Copy, Join and Same have caches of.
func lists() [][]entry {
	return [][]entry{
		nil,
		{{1, 5, "x"}},
		{{1, 5, ""}},
		{{1, 5, "y"}},
		{{1, 6, "x"}},
		{{2, 5, "x"}},
		{{0, 1, "zero"}, {lastClient, lastSeq, "last"}},
		{{0, 2, "zero"}, {1, 4, "one"}, {2, 6, "two"}, {3, 3, ""}},
		{{2, 6, "other"}, {3, 4, "three"}, {4, 1, "four"}},
		everyone(),
	}
}

func TestCopy(t *testing.T) {
	for _, l := range lists() {
		a := made(t, l...)
		b := a.Copy()
		wantCache(t, "P9.1: Copy", b, l)
		wantCache(t, "P9.1: what was copied", a, l)
		if !once.Same(a, b) {
			t.Errorf("P9.1: Same of a Copy of %s: false", show(l))
		}
		wantApart(t, "R2: Copy", a, b, l, l)
		c := made(t, l...)
		wantApart(t, "R2: Copy, turned round", c.Copy(), c, l, l)
	}
}

// TestCopyOfAGreaterNumber: a client that both have gets a new answer in one of them.
func TestCopyOfAGreaterNumber(t *testing.T) {
	a := made(t, entry{1, 5, "x"}, entry{2, 5, "y"})
	b := a.Copy()
	a.Keep(1, 6, []byte("a"))
	b.Keep(2, 7, []byte("b"))
	wantCache(t, "R2: Copy", a, []entry{{1, 6, "a"}, {2, 5, "y"}})
	wantCache(t, "R2: Copy", b, []entry{{1, 5, "x"}, {2, 7, "b"}})
}

func TestJoin(t *testing.T) {
	for _, x := range []struct {
		what       string
		a, b, want []entry
	}{
		{"of nothing", nil, nil, nil},
		{"a's alone", []entry{{1, 5, "a"}}, nil, []entry{{1, 5, "a"}}},
		{"b's alone", nil, []entry{{1, 5, "b"}}, []entry{{1, 5, "b"}}},
		{"of two clients", []entry{{1, 5, "a"}}, []entry{{2, 4, "b"}}, []entry{{1, 5, "a"}, {2, 4, "b"}}},
		{"of two clients, turned round", []entry{{2, 5, "a"}}, []entry{{1, 4, "b"}}, []entry{{1, 4, "b"}, {2, 5, "a"}}},
		{"a's is greater", []entry{{1, 6, "a"}}, []entry{{1, 5, "b"}}, []entry{{1, 6, "a"}}},
		{"b's is greater", []entry{{1, 5, "a"}}, []entry{{1, 6, "b"}}, []entry{{1, 6, "b"}}},
		{"b's is greater, its answer empty", []entry{{1, 5, "a"}}, []entry{{1, 6, ""}}, []entry{{1, 6, ""}}},
		{"the same number", []entry{{1, 5, "a"}}, []entry{{1, 5, "b"}}, []entry{{1, 5, "a"}}},
		{"the same number, a's answer empty", []entry{{1, 5, ""}}, []entry{{1, 5, "b"}}, []entry{{1, 5, ""}}},
		{"the edges", []entry{{0, 1, "a"}, {lastClient, lastSeq - 1, "a"}}, []entry{{0, 2, "b"}, {lastClient, lastSeq, "b"}}, []entry{{0, 2, "b"}, {lastClient, lastSeq, "b"}}},
		{"all of that", []entry{{1, 5, "a"}, {2, 5, "a"}, {3, 5, "a"}, {5, 9, "a"}}, []entry{{0, 1, "b"}, {2, 7, "b"}, {3, 5, "b"}, {4, 1, "b"}, {5, 8, "b"}}, []entry{{0, 1, "b"}, {1, 5, "a"}, {2, 7, "b"}, {3, 5, "a"}, {4, 1, "b"}, {5, 9, "a"}}},
	} {
		a, b := made(t, x.a...), made(t, x.b...)
		both := once.Join(a, b)
		wantCache(t, "P9.1: Join, "+x.what, both, x.want)
		if !once.Same(both, made(t, x.want...)) {
			t.Errorf("P9.1: Same of a Join, %s: false", x.what)
		}
		wantCache(t, "R2: Join, "+x.what+": a", a, x.a)
		wantCache(t, "R2: Join, "+x.what+": b", b, x.b)
	}
}

// TestJoinOfAnyTwo: each list with each, itself too; they stay as they were, and all three are by themselves.
func TestJoinOfAnyTwo(t *testing.T) {
	for _, as := range lists() {
		for _, bs := range lists() {
			a, b := made(t, as...), made(t, bs...)
			both := once.Join(a, b)
			want := joined(as, bs)
			wantCache(t, "P9.1: Join", both, want)
			wantCache(t, "R2: Join: a", a, as)
			wantCache(t, "R2: Join: b", b, bs)
			wantApart(t, "R2: Join and a", both, a, want, as)
			wantApart(t, "R2: b and Join", b, once.Join(made(t, as...), b), bs, want)
		}
	}
}

func TestJoinWithItself(t *testing.T) {
	for _, l := range lists() {
		c := made(t, l...)
		both := once.Join(c, c)
		wantCache(t, "P9.1: Join of one with itself", both, l)
		wantApart(t, "R2: Join of one with itself", both, c, l, l)
	}
}

func TestJoinOfNil(t *testing.T) {
	for _, l := range lists() {
		for what, join := range map[string]func(c *once.Cache) *once.Cache{
			"the first one nil":  func(c *once.Cache) *once.Cache { return once.Join(nil, c) },
			"the second one nil": func(c *once.Cache) *once.Cache { return once.Join(c, nil) },
		} {
			c := made(t, l...)
			both := join(c)
			wantCache(t, "P9.1: Join, "+what, both, l)
			if !once.Same(both, c) {
				t.Errorf("P9.1: Same of a Join of %s, %s: false", show(l), what)
			}
			wantApart(t, "R2: Join, "+what, both, c, l, l)
		}
	}
	both := once.Join(nil, nil)
	if both == nil {
		t.Fatal("P9.1: Join of two nil ones: nil")
	}
	wantCache(t, "P9.1: Join of two nil ones", both, nil)
	if !once.Same(both, once.New()) {
		t.Error("P9.1: Join of two nil ones is not an empty one")
	}
}

func wantSame(t *testing.T, what string, a, b *once.Cache, want bool) {
	t.Helper()
	if once.Same(a, b) != want || once.Same(b, a) != want {
		t.Errorf("P9.1: Same, %s: %v, turned round: %v", what, once.Same(a, b), once.Same(b, a))
	}
}

func TestSame(t *testing.T) {
	for i, as := range lists() {
		for k, bs := range lists() {
			wantSame(t, show(as)+" and "+show(bs), made(t, as...), made(t, bs...), i == k)
		}
		c := made(t, as...)
		wantSame(t, "one and itself", c, c, true)
		wantSame(t, "one and nil", c, nil, false)
	}
	wantSame(t, "nil and nil", nil, nil, false)
}

// TestSameInAnyOrder: whatever order they were kept in, and whatever was kept ahead of them.
func TestSameInAnyOrder(t *testing.T) {
	for _, l := range [][]entry{{{1, 5, "x"}, {2, 7, ""}, {3, 1, "z"}}, everyone()} {
		want := made(t, l...)
		for _, order := range orders(l) {
			wantSame(t, "in another order", made(t, order...), want, true)
		}
	}
	for _, ahead := range [][]entry{{{1, 4, "x"}}, {{1, 1, ""}, {1, 2, "older"}}, {{2, 6, "y"}, {1, 4, "w"}}} {
		c := made(t, append(ahead, entry{2, 7, "y"}, entry{1, 5, "x"})...)
		wantSame(t, "with something kept ahead", c, made(t, entry{1, 5, "x"}, entry{2, 7, "y"}), true)
	}
}

// TestSameOfOneThatDiffers: one number, one answer, one client, and one more, at each place.
func TestSameOfOneThatDiffers(t *testing.T) {
	base := []entry{{1, 5, "x"}, {3, 5, "y"}, {5, 5, ""}}
	c := made(t, base...)
	for i := range base {
		for what, turn := range map[string]func(x *entry){
			"a number above":   func(x *entry) { x.seq++ },
			"a number below":   func(x *entry) { x.seq-- },
			"an answer":        func(x *entry) { x.answer = "other" },
			"a longer answer":  func(x *entry) { x.answer += "\x00" },
			"a client":         func(x *entry) { x.client++ },
			"a client's place": func(x *entry) { x.client += 100 },
		} {
			l := slices.Clone(base)
			turn(&l[i])
			wantSame(t, what+" differs", c, made(t, l...), false)
		}
		wantSame(t, "one client less", c, made(t, slices.Delete(slices.Clone(base), i, i+1)...), false)
	}
	for _, more := range []entry{{0, 5, ""}, {2, 5, "x"}, {lastClient, 1, ""}} {
		wantSame(t, "one client more", c, made(t, append(slices.Clone(base), more)...), false)
	}
}
