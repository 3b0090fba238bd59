package msg_test

import (
	"bytes"
	"fmt"
	"math/rand"
	"slices"
	"strings"
	"testing"

	"wardmote/api"
	"wardmote/msg"
)

// Bytes of numbers that stand in many messages.
const (
	num0 = "\x00\x00\x00\x00"
	num1 = "\x00\x00\x00\x01"
	top  = "\x40\x00\x00\x00" // 2^30
	high = "\x40\x00\x00\x01" // a ballot of 2^30
)

// fullBytes are full()'s by the document's words.
const fullBytes = "\x04\x02" + "\x00\x00\x00\x04\x00\x00\x00\x6b\x00\x00\x00\x0a\x00\x00\x01\x02" + "\x06" + "\x01\x02\x03\x04" +
	"\x00\x00\x00\x02b\x00" + "\x02" +
	"\x00\x00\x00\x0b\x00\x00\x00\x0d" + num1 + "v" + "\x00\x00\x00\x0d\x00\x00\x00\x0f" + num0

// written is a message that may be, and its bytes by the document's words.
type written struct {
	m    api.Message
	want string
}

func all() []written {
	return []written{
		{full(), fullBytes},
		{api.Message{Kind: api.Ask}, "\x01\x00" + num0 + num0 + num1 + num0 + "\x00" + num0 + num0 + "\x00"},
		{api.Message{Kind: api.Prepare, Ballot: -1}, "\x03\x00" + num0 + num0 + num0 + num0 + "\x00" + num0 + num0 + "\x00"},
		{api.Message{Kind: api.Copy, Group: 3, From: 355, To: 355, Ballot: maxNum, Slot: maxNum, Client: 255, Seq: maxNum},
			"\x09\x03\x00\x00\x01\x63\x00\x00\x01\x63" + high + top + "\xff" + top + num0 + "\x00"},
		{api.Message{Kind: api.Reply, From: 256, To: 1, Client: 128, B: []byte("\xff\x00")},
			"\x02\x00\x00\x00\x01\x00" + num1 + num1 + num0 + "\x80" + num0 + "\x00\x00\x00\x02\xff\x00" + "\x00"},
		{api.Message{Kind: api.Promise, L: []api.Vote{{Slot: maxNum, Ballot: maxNum, V: []byte("\xff")}, {Ballot: -1}}},
			"\x04\x00" + num0 + num0 + num1 + num0 + "\x00" + num0 + num0 + "\x02" + top + high + num1 + "\xff" + num0 + num0 + num0},
		{api.Message{Kind: api.Need, L: slices.Repeat([]api.Vote{{}}, maxVotes)},
			"\x08\x00" + num0 + num0 + num1 + num0 + "\x00" + num0 + num0 + "\x10" + strings.Repeat(num0+num1+num0, maxVotes)},
	}
}

func TestEncode(t *testing.T) {
	for _, x := range all() {
		if b, why := msg.Encode(x.m); string(b) != x.want || why != api.OK {
			t.Errorf("P16.1: Encode of %s: % x, %v, want % x", show(x.m), b, why, x.want)
		}
		m, why := msg.Decode([]byte(x.want))
		if show(m) != show(x.m) || why != api.OK || !msg.Same(m, x.m) {
			t.Errorf("P16.1: Decode of % x: %s, %v, want %s", x.want, show(m), why, show(x.m))
		}
		if !isMessage([]byte(x.want)) {
			t.Errorf("the test's own bytes: % x", x.want)
		}
	}
	if b, why := msg.Encode(api.Message{}); why != api.ErrArg || len(b) > 0 {
		t.Errorf("P16.1: Encode of Kind 0: % x, %v", b, why)
	}
	if m, why := msg.Decode(nil); why != api.ErrForm || show(m) != show(api.Message{}) {
		t.Errorf("P16.1: Decode of nothing: %s, %v", show(m), why)
	}
}

// sieve tells by the document's words alone whether bytes are a message's.
type sieve struct {
	rest []byte
	bad  bool
}

func (s *sieve) number(size, least, most int) int {
	n := 0
	if len(s.rest) < size {
		s.bad = true
		return 0
	}
	for _, b := range s.rest[:size] {
		n = n*256 + int(b)
	}
	s.rest = s.rest[size:]
	s.bad = s.bad || n < least || n > most
	return n
}

func (s *sieve) text() {
	n := s.number(4, 0, api.MaxBytes)
	if s.bad || n > len(s.rest) {
		s.bad = true
		return
	}
	s.rest = s.rest[n:]
}

func isMessage(b []byte) bool {
	s := &sieve{rest: b}
	s.number(1, 1, 9)
	s.number(1, 0, 3)
	s.number(4, 0, 355)
	s.number(4, 0, 355)
	s.number(4, 0, maxNum+1)
	s.number(4, 0, maxNum)
	s.number(1, 0, 255)
	s.number(4, 0, maxNum)
	s.text()
	for range s.number(1, 0, maxVotes) {
		s.number(4, 0, maxNum)
		s.number(4, 0, maxNum+1)
		s.text()
	}
	return !s.bad && len(s.rest) == 0
}

// wantTaken holds what Decode tells of b against isMessage.
func wantTaken(t *testing.T, what string, b []byte) {
	t.Helper()
	m, why := msg.Decode(b)
	if !isMessage(b) {
		if why != api.ErrForm || show(m) != show(api.Message{}) {
			t.Errorf("P16.1: Decode of % .60x, %s: %s, %v", b, what, short(m), why)
		}
		return
	}
	again, no := msg.Encode(m)
	if why != api.OK || no != api.OK || !bytes.Equal(again, b) || !msg.Right(m) {
		t.Errorf("P16.1: Decode of % .60x, %s: %s, %v; again: % .60x, %v", b, what, short(m), why, again, no)
	}
}

func TestDecodeOfPieces(t *testing.T) {
	for _, x := range all() {
		b := []byte(x.want)
		for n := range len(b) {
			if m, why := msg.Decode(b[:n]); why != api.ErrForm || show(m) != show(api.Message{}) {
				t.Errorf("P16.1: Decode of the first %d bytes of % x: %s, %v", n, b, show(m), why)
			}
			if _, why := msg.Decode(b[n+1:]); why != api.ErrForm && !isMessage(b[n+1:]) {
				t.Errorf("P16.1: Decode of % x without the first %d bytes: %v", b, n+1, why)
			}
		}
		for n := range 256 {
			if m, why := msg.Decode(append(slices.Clone(b), byte(n))); why != api.ErrForm || show(m) != show(api.Message{}) {
				t.Errorf("P16.1: Decode of % x and a byte %d: %s, %v", b, n, show(m), why)
			}
		}
	}
}

// TestDecodeOfEachByte: each byte in each place of right ones.
func TestDecodeOfEachByte(t *testing.T) {
	for _, x := range all() {
		for i := range len(x.want) {
			for n := range 256 {
				b := []byte(x.want)
				b[i] = byte(n)
				wantTaken(t, fmt.Sprint("another byte at ", i), b)
			}
		}
	}
}

// TestDecodeOfEdges: each number of the bytes of full() at the edges of what it may be, and far from them.
func TestDecodeOfEdges(t *testing.T) {
	const first, ballot, slot, seq = 2, 10, 14, 19
	votes := []int{30, 34, 43, 47}
	for _, i := range append(votes, first, first+4, ballot, slot, seq) {
		for _, n := range []uint32{0, 1, 354, 355, 356, maxNum - 1, maxNum, maxNum + 1, maxNum + 2, 1 << 31, 1<<32 - 2, 1<<32 - 1} {
			b := []byte(fullBytes)
			for k := range 4 {
				b[i+k] = byte(n >> (24 - 8*k))
			}
			wantTaken(t, fmt.Sprint("the number ", n, " at ", i), b)
		}
	}
}

func TestDecodeOfSizes(t *testing.T) {
	head := "\x01\x00" + num0 + num0 + num1 + num0 + "\x00" + num0
	for size, length := range map[int]string{api.MaxBytes - 1: "\x00\x0f\xff\xff", api.MaxBytes: "\x00\x10\x00\x00", api.MaxBytes + 1: "\x00\x10\x00\x01"} {
		text := length + strings.Repeat("x", size)
		wantTaken(t, fmt.Sprint("B of ", size), []byte(head+text+"\x00"))
		wantTaken(t, fmt.Sprint("V of ", size), []byte(head+num0+"\x01"+num0+num0+text))
	}
	for n := range 256 {
		wantTaken(t, fmt.Sprint(n, " votes"), []byte(head+num0+string([]byte{byte(n)})+strings.Repeat(num0+num1+num0, n)))
	}
}

// TestDecodeOfAny: bytes of nothing in particular, and bytes of messages with some changes.
func TestDecodeOfAny(t *testing.T) {
	rnd := rand.New(rand.NewSource(16))
	for range 20000 {
		b := make([]byte, rnd.Intn(70))
		for i := range b {
			b[i] = byte(rnd.Intn(256)) & byte(rnd.Intn(256)) & byte(rnd.Intn(256))
		}
		wantTaken(t, "any bytes", b)
	}
	for range 20000 {
		l := all()
		b := []byte(l[rnd.Intn(len(l))].want)
		for range 1 + rnd.Intn(3) {
			i := rnd.Intn(len(b))
			switch rnd.Intn(3) {
			case 0:
				b[i] ^= 1 << rnd.Intn(8)
			case 1:
				b = slices.Insert(b, i, byte(rnd.Intn(3)))
			case 2:
				b = slices.Delete(b, i, min(len(b)-1, i+1+rnd.Intn(4)))
			}
		}
		wantTaken(t, "changed bytes", b)
	}
}

func someNumber(rnd *rand.Rand, least, most int) int {
	switch rnd.Intn(4) {
	case 0:
		return least
	case 1:
		return most
	}
	return least + rnd.Intn(most-least+1)
}

func someText(rnd *rand.Rand) []byte {
	b := make([]byte, rnd.Intn(4)*rnd.Intn(90))
	rnd.Read(b)
	return b
}

func someMessage(rnd *rand.Rand) api.Message {
	m := full()
	m.B, m.L = someText(rnd), votes(2+rnd.Intn(maxVotes-1))
	for i := range m.L {
		m.L[i] = api.Vote{Slot: someNumber(rnd, 0, maxNum), Ballot: someNumber(rnd, -1, maxNum), V: someText(rnd)}
	}
	for _, f := range fields() {
		*f.of(&m) = someNumber(rnd, f.least, f.most)
	}
	if rnd.Intn(3) == 0 {
		m.L = m.L[:rnd.Intn(2)]
	}
	return m
}

// TestBack: what was written comes back, and no two messages have the same bytes.
func TestBack(t *testing.T) {
	rnd := rand.New(rand.NewSource(61))
	seen := map[string]string{}
	for range 5000 {
		m := someMessage(rnd)
		wantRight(t, "a random one", m, true)
		b, _ := msg.Encode(m)
		if !isMessage(b) {
			t.Errorf("P16.1: Encode of %s: % .60x", short(m), b)
		}
		if was, ok := seen[string(b)]; ok && was != show(m) {
			t.Errorf("P16.1: Encode of two messages is the same: %.300s, %s", was, short(m))
		}
		seen[string(b)] = show(m)
	}
}
