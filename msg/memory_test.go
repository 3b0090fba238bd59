package msg_test

import (
	"fmt"
	"slices"
	"testing"

	"wardmote/api"
	"wardmote/msg"
)

func fill[T any](l []T, x T) {
	for i := range l {
		l[i] = x
	}
}

// withRoom is l in memory of its own with room behind it, and x in that room.
func withRoom[T any](l []T, x T) []T {
	own := make([]T, len(l), len(l)+3)
	copy(own, l)
	fill(own[len(own):cap(own)], x)
	return own
}

// roomy is m with room behind each of its lists, and something in that room.
func roomy(m api.Message) api.Message {
	m.B = withRoom(m.B, 'r')
	m.L = withRoom(m.L, api.Vote{Slot: 77, Ballot: 77, V: []byte("room")})
	for i, v := range m.L {
		m.L[i].V = withRoom(v.V, 'r')
	}
	return m
}

// showWhole tells all of m with the room of its lists.
func showWhole(m api.Message) string {
	m.B, m.L = m.B[:cap(m.B)], slices.Clone(m.L[:cap(m.L)])
	for i, v := range m.L {
		m.L[i].V = v.V[:cap(v.V)]
	}
	return show(m)
}

// overwrite fills all of m's lists, and their room, with something else.
func overwrite(m api.Message) {
	for _, v := range m.L {
		fill(v.V[:cap(v.V)], 'z')
	}
	fill(m.B[:cap(m.B)], 'z')
	fill(m.L[:cap(m.L)], api.Vote{Slot: 99, Ballot: 99, V: []byte("zzz")})
}

// bearing are messages, right and wrong, with lists of all lengths.
func bearing() []api.Message {
	l := []api.Message{{}, {Kind: api.Ask}, {Kind: api.Ask, L: votes(1)}, {Kind: -1, B: []byte("wrong"), L: votes(30)}, {Kind: api.Copy, L: votes(maxVotes)}}
	for _, x := range all() {
		l = append(l, x.m)
	}
	return append(l, others()...)
}

// TestLeavesMessages: no call changes what it is given, nor reads or writes its room.
func TestLeavesMessages(t *testing.T) {
	for i, x := range bearing() {
		m, plain := roomy(x), showWhole(roomy(x))
		other := roomy(full())
		otherWas := showWhole(other)
		if msg.Right(m) != msg.Right(x) || msg.Same(m, other) != msg.Same(x, full()) || !msg.Same(m, x) {
			t.Errorf("R5: Right or Same, case %d: they hang on the room: %s", i, short(x))
		}
		b, why := msg.Encode(m)
		if want, no := msg.Encode(x); string(b) != string(want) || why != no {
			t.Errorf("R5: Encode, case %d: it hangs on the room: % .60x, want % .60x", i, b, want)
		}
		if c := msg.Copy(m); show(c) != show(x) {
			t.Errorf("R5: Copy, case %d: it hangs on the room: %s, want %s", i, short(c), short(x))
		}
		if showWhole(m) != plain || showWhole(other) != otherWas {
			t.Errorf("R2: case %d: what was handed in has changed: %s", i, short(m))
		}
	}
}

// TestEncodeTellsNewMemory: the bytes stay when the message is overwritten, and the message when they are.
func TestEncodeTellsNewMemory(t *testing.T) {
	for i, x := range bearing() {
		want, _ := msg.Encode(x)
		wanted := string(want)
		m := roomy(x)
		b, _ := msg.Encode(m)
		again, _ := msg.Encode(m)
		was := showWhole(m)
		fill(again[:cap(again)], 'y')
		if showWhole(m) != was || string(b) != wanted {
			t.Errorf("R2: Encode, case %d: what it told is overwritten, and with it the message or other bytes", i)
		}
		overwrite(m)
		if string(b) != wanted {
			t.Errorf("R2: Encode, case %d: the message is overwritten, and with it the bytes", i)
		}
	}
}

// TestDecodeTellsNewMemory: a message stays when the bytes are overwritten, or another one that was read of them.
func TestDecodeTellsNewMemory(t *testing.T) {
	for i, x := range all() {
		b := withRoom([]byte(x.want), 'r')
		was := string(b[:cap(b)])
		first, _ := msg.Decode(b)
		second, _ := msg.Decode(b)
		if string(b[:cap(b)]) != was {
			t.Errorf("R2: Decode, case %d: it has changed what was handed in", i)
		}
		overwrite(first)
		if string(b[:cap(b)]) != was || show(second) != show(x.m) {
			t.Errorf("R2: Decode, case %d: a message is overwritten, and with it the bytes or another message", i)
		}
		fill(b[:cap(b)], 'z')
		if show(second) != show(x.m) {
			t.Errorf("R2: Decode, case %d: the bytes are overwritten, and with them the message", i)
		}
		wantApart(t, fmt.Sprint("Decode, case ", i), second)
	}
}

// TestCopyTellsNewMemory: each of a message and its copies by itself.
func TestCopyTellsNewMemory(t *testing.T) {
	for i, x := range bearing() {
		m := roomy(x)
		was := showWhole(m)
		first, second := msg.Copy(m), msg.Copy(m)
		overwrite(first)
		if showWhole(m) != was || show(second) != show(x) {
			t.Errorf("P16.1: Copy, case %d: a copy is overwritten, and with it the message or another copy", i)
		}
		overwrite(m)
		if show(second) != show(x) {
			t.Errorf("P16.1: Copy, case %d: the message is overwritten, and with it the copy", i)
		}
		wantApart(t, fmt.Sprint("Copy, case ", i), second)
	}
}

// TestCopyOfSharedLists: where two votes have one list, their copies have two.
func TestCopyOfSharedLists(t *testing.T) {
	b := []byte("shared")
	m := api.Message{Kind: api.Promise, B: b, L: []api.Vote{{V: b}, {Slot: 1, V: b[:3]}, {Slot: 2, V: b[:0]}}}
	wantApart(t, "Copy of a message whose lists are one", msg.Copy(m))
}

// wantApart overwrites m's lists one by one, with their room: the others stay.
func wantApart(t *testing.T, what string, m api.Message) {
	t.Helper()
	lists := [][]byte{m.B}
	for _, v := range m.L {
		lists = append(lists, v.V)
	}
	var want []string
	for _, b := range lists {
		want = append(want, string(b))
	}
	for i, b := range lists {
		fill(b[:cap(b)], byte('A'+i))
		for k, other := range lists[i+1:] {
			if string(other) != want[i+1+k] {
				t.Errorf("R2: %s: list %d is overwritten, and list %d is %q", what, i, i+1+k, other)
			}
		}
	}
	fill(m.L[len(m.L):cap(m.L)], api.Vote{Slot: 99})
}
