package msg_test

import (
	"fmt"
	"math"
	"slices"
	"testing"

	"wardmote/api"
	"wardmote/msg"
)

// The document's own numbers.
const (
	maxNum   = 1 << 30
	maxVotes = 16
)

// full has a value of its own in every field.
func full() api.Message {
	return api.Message{
		Kind: api.Promise, Group: 2, From: 4, To: 107, Ballot: 9, Slot: 258, Client: 6, Seq: 0x01020304,
		B: []byte("b\x00"), L: []api.Vote{{Slot: 11, Ballot: 12, V: []byte("v")}, {Slot: 13, Ballot: 14}},
	}
}

// show tells all of m, nil and empty lists alike.
func show(m api.Message) string {
	s := fmt.Sprintf("Kind %d, Group %d, From %d, To %d, Ballot %d, Slot %d, Client %d, Seq %d, B %x", m.Kind, m.Group, m.From, m.To, m.Ballot, m.Slot, m.Client, m.Seq, m.B)
	for _, v := range m.L {
		s += fmt.Sprintf(", Slot %d Ballot %d V %x", v.Slot, v.Ballot, v.V)
	}
	return s
}

// short is show of what may be very long.
func short(m api.Message) string {
	return fmt.Sprintf("%.300s", show(m))
}

// field is one number of a message, with the least and the most that it may be.
type field struct {
	name        string
	least, most int
	of          func(m *api.Message) *int
}

func fields() []field {
	return []field{
		{"Kind", api.Ask, api.Copy, func(m *api.Message) *int { return &m.Kind }},
		{"Group", 0, api.MaxGroups, func(m *api.Message) *int { return &m.Group }},
		{"From", 0, 355, func(m *api.Message) *int { return &m.From }},
		{"To", 0, 355, func(m *api.Message) *int { return &m.To }},
		{"Ballot", -1, maxNum, func(m *api.Message) *int { return &m.Ballot }},
		{"Slot", 0, maxNum, func(m *api.Message) *int { return &m.Slot }},
		{"Client", 0, 255, func(m *api.Message) *int { return &m.Client }},
		{"Seq", 0, maxNum, func(m *api.Message) *int { return &m.Seq }},
		{"the first vote's Slot", 0, maxNum, func(m *api.Message) *int { return &m.L[0].Slot }},
		{"the first vote's Ballot", -1, maxNum, func(m *api.Message) *int { return &m.L[0].Ballot }},
		{"the last vote's Slot", 0, maxNum, func(m *api.Message) *int { return &m.L[1].Slot }},
		{"the last vote's Ballot", -1, maxNum, func(m *api.Message) *int { return &m.L[1].Ballot }},
	}
}

// wantRight asks Right and Encode of m, and whether what Encode writes comes back.
func wantRight(t *testing.T, what string, m api.Message, want bool) {
	t.Helper()
	if got := msg.Right(m); got != want {
		t.Errorf("P16.1: Right, %s: %v", what, got)
	}
	b, why := msg.Encode(m)
	if !want {
		if why != api.ErrArg || len(b) > 0 {
			t.Errorf("P16.1: Encode, %s: %.60x, %v", what, b, why)
		}
		return
	}
	back, no := msg.Decode(b)
	if why != api.OK || no != api.OK || show(back) != show(m) || !msg.Same(back, m) {
		t.Errorf("P16.1: %s: %v, %v; back: %s, want %s", what, why, no, short(back), short(m))
	}
}

func TestNumbers(t *testing.T) {
	wantRight(t, "a full message", full(), true)
	for _, f := range fields() {
		around := []int{math.MinInt, math.MaxInt, -maxNum, -2, -1, 0, 1, 9, 10, 255, 256, 257, 1<<31 - 1, 1 << 31, 1<<32 - 1, 1 << 32, 1<<32 + 1}
		for _, n := range append(around, f.least-1, f.least, f.least+1, f.most-1, f.most, f.most+1) {
			m := full()
			*f.of(&m) = n
			wantRight(t, fmt.Sprint(f.name, " ", n), m, n >= f.least && n <= f.most)
		}
	}
}

func TestKinds(t *testing.T) {
	for n := -300; n <= 600; n++ {
		wantRight(t, fmt.Sprint("nothing but Kind ", n), api.Message{Kind: n}, n >= 1 && n <= 9)
	}
	// A Kind asks for no fields of its own: any may stand beside it.
	for _, kind := range []int{api.Ask, api.Reply, api.Prepare, api.Promise, api.Accept, api.Accepted, api.Beat, api.Need, api.Copy} {
		m := full()
		m.Kind = kind
		wantRight(t, fmt.Sprint("a full message of Kind ", kind), m, true)
	}
}

func TestSizes(t *testing.T) {
	for size, want := range map[int]bool{0: true, 1: true, 300: true, api.MaxBytes - 1: true, api.MaxBytes: true, api.MaxBytes + 1: false} {
		m := full()
		m.B = slices.Repeat([]byte("x"), size)
		wantRight(t, fmt.Sprint("B of ", size), m, want)
		for i := range 2 {
			m = full()
			m.L[i].V = slices.Repeat([]byte("x"), size)
			wantRight(t, fmt.Sprint("V of vote ", i, " of ", size), m, want)
		}
	}
}

// votes are n right ones, in no order, some of them the same.
func votes(n int) []api.Vote {
	var l []api.Vote
	for i := range n {
		l = append(l, api.Vote{Slot: 50 - i/2*3, Ballot: i%4 - 1, V: []byte(fmt.Sprint(i / 3))})
	}
	return l
}

func TestVotes(t *testing.T) {
	for n := range 600 {
		m := full()
		m.L = votes(n)
		wantRight(t, fmt.Sprint(n, " votes"), m, n <= maxVotes)
	}
	wrong := []api.Vote{{Slot: -1}, {Slot: maxNum + 1}, {Ballot: -2}, {Ballot: maxNum + 1}, {V: make([]byte, api.MaxBytes+1)}}
	for i := range maxVotes {
		for k, v := range wrong {
			m := full()
			m.L = votes(maxVotes)
			m.L[i] = v
			wantRight(t, fmt.Sprint("the wrong vote ", k, " at ", i), m, false)
		}
	}
}

func TestGreatest(t *testing.T) {
	m := full()
	m.B = slices.Repeat([]byte("x"), api.MaxBytes)
	m.L = slices.Repeat([]api.Vote{{Slot: maxNum, Ballot: maxNum, V: slices.Repeat([]byte("v"), api.MaxBytes)}}, maxVotes)
	wantRight(t, "the greatest one", m, true)
}

// others are messages that are not full(): one field of each is another one.
func others() []api.Message {
	var l []api.Message
	for _, f := range fields() {
		for _, by := range []int{1, -1, 256, 1 << 32} {
			m := full()
			*f.of(&m) += by
			l = append(l, m)
		}
	}
	turns := []func(m *api.Message){
		func(m *api.Message) { m.B = nil },
		func(m *api.Message) { m.B = []byte("b") },
		func(m *api.Message) { m.B = []byte("b\x00\x00") },
		func(m *api.Message) { m.B = []byte("b\x01") },
		func(m *api.Message) { m.L = nil },
		func(m *api.Message) { m.L = m.L[:1] },
		func(m *api.Message) { m.L = m.L[1:] },
		func(m *api.Message) { m.L = append(m.L, api.Vote{}) },
		func(m *api.Message) { m.L = append(m.L, m.L[1]) },
		func(m *api.Message) { slices.Reverse(m.L) },
		func(m *api.Message) { m.L[0].V = nil },
		func(m *api.Message) { m.L[0].V = []byte("w") },
		func(m *api.Message) { m.L[1].V = []byte("v") },
	}
	for _, turn := range turns {
		m := full()
		turn(&m)
		l = append(l, m)
	}
	return append(l, api.Message{})
}

func TestSame(t *testing.T) {
	for i, m := range others() {
		if msg.Same(m, full()) || msg.Same(full(), m) {
			t.Errorf("P16.1: Same of a full message and another one, case %d: %s", i, short(m))
		}
		if !msg.Same(m, m) || !msg.Same(m, msg.Copy(m)) || !msg.Same(msg.Copy(m), m) {
			t.Errorf("P16.1: Same of a message and itself, or a copy, case %d: %s", i, short(m))
		}
	}
	// nil and empty lists mean the same.
	none := api.Message{Kind: api.Ask, L: []api.Vote{{}}}
	empty := api.Message{Kind: api.Ask, B: []byte{}, L: []api.Vote{{V: []byte{}}}}
	if !msg.Same(none, empty) || !msg.Same(empty, none) || !msg.Same(api.Message{}, api.Message{L: []api.Vote{}}) {
		t.Error("R4: Same of nil and empty lists")
	}
}

func TestCopy(t *testing.T) {
	for i, m := range append(others(), full(), api.Message{Kind: -5, L: votes(40)}, api.Message{B: make([]byte, api.MaxBytes+1)}) {
		if c := msg.Copy(m); show(c) != show(m) {
			t.Errorf("P16.1: Copy, case %d: %s, want %s", i, short(c), short(m))
		}
	}
}

func TestClient(t *testing.T) {
	for n, want := range map[int]int{0: 100, 1: 101, 3: 103, api.Mover: 355, 256: 356, -1: 99, -100: 0, -101: -1, maxNum: maxNum + 100, math.MinInt: math.MinInt + 100, math.MaxInt - 100: math.MaxInt} {
		if got := msg.Client(n); got != want {
			t.Errorf("P16.1: Client(%d): %d, want %d", n, got, want)
		}
	}
	if msg.Client(math.MaxInt) == 0 {
		t.Error("R1: Client of the highest int")
	}
}
