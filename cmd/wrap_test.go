package cmd_test

import (
	"bytes"
	"math/rand"
	"slices"
	"testing"

	"wardmote/api"
	"wardmote/cmd"
)

func TestWrap(t *testing.T) {
	for _, c := range []struct {
		client, seq int
		b, want     string
		gotC, gotS  int
	}{
		{0, 0, "", "\x00" + empty + empty, 0, 0},
		{7, 258, "b", "\x07\x00\x00\x01\x02" + bText, 7, 258},
		{api.Mover, maxGen, longest, "\xff\x40\x00\x00\x00" + long16, 255, maxGen},
		{255, 1<<32 - 1, "\x00", "\xff\xff\xff\xff\xff\x00\x00\x00\x01\x00", 255, 1<<32 - 1},
		{256, 1 << 32, "a", "\x00" + empty + aText, 0, 0},
		{257, 1<<32 + 1, "a", "\x01" + num1 + aText, 1, 1},
		{-1, -1, "", "\xff\xff\xff\xff\xff" + empty, 255, 1<<32 - 1},
		{-255, -1 << 31, "", "\x01\x80\x00\x00\x00" + empty, 1, 1 << 31},
		{-256, -1 << 32, "", "\x00" + empty + empty, 0, 0},
	} {
		v := cmd.Wrap(c.client, c.seq, []byte(c.b))
		if string(v) != c.want {
			t.Errorf("P8.4: Wrap of %d, %d, %q: % x, want % x", c.client, c.seq, c.b, v, c.want)
		}
		wantUnwrapped(t, v, c.gotC, c.gotS, []byte(c.b))
	}
	if v := cmd.Wrap(1, 1, nil); string(v) != "\x01"+num1+empty {
		t.Errorf("P8.4: Wrap of nil: % x", v)
	}
}

func wantUnwrapped(t *testing.T, v []byte, client, seq int, b []byte) {
	t.Helper()
	c, s, got, ok := cmd.Unwrap(v)
	if c != client || s != seq || !bytes.Equal(got, b) || !ok {
		t.Errorf("P8.4: Unwrap of % .60x: %d, %d, % .60x, %v, want %d, %d, % .60x", v, c, s, got, ok, client, seq, b)
	}
}

func wantUnwrappedNot(t *testing.T, what string, v []byte) {
	t.Helper()
	if c, s, b, ok := cmd.Unwrap(v); c != 0 || s != 0 || len(b) > 0 || ok {
		t.Errorf("P8.4: Unwrap of % .60x, %s: %d, %d, % .60x, %v", v, what, c, s, b, ok)
	}
}

func TestWrapOfMuch(t *testing.T) {
	most := make([]byte, api.MaxBytes)
	for i := range most {
		most[i] = byte(i % 251)
	}
	v := cmd.Wrap(3, 4, most)
	if len(v) != 9+api.MaxBytes {
		t.Errorf("P8.4: Wrap of MaxBytes: %d bytes", len(v))
	}
	wantUnwrapped(t, v, 3, 4, most)
	for _, size := range []int{1, 2, api.MaxBytes} {
		if v := cmd.Wrap(3, 4, make([]byte, api.MaxBytes+size)); len(v) > 0 {
			t.Errorf("P8.4: Wrap of %d bytes above MaxBytes: %d bytes", size, len(v))
		}
	}
	longer := append(slices.Clone(v), 0)
	wantUnwrappedNot(t, "MaxBytes and more", longer)
	longer[8]++
	wantUnwrappedNot(t, "one above MaxBytes", longer)
}

func TestUnwrapOfOthers(t *testing.T) {
	for _, s := range []string{"", "a", longest} {
		v := cmd.Wrap(7, 258, []byte(s))
		for n := range v {
			// The bytes behind the cut stand in the spare room: they must not be read.
			wantUnwrappedNot(t, "cut off", v[:n])
		}
		for _, more := range []string{"\x00", "a", empty, string(v)} {
			wantUnwrappedNot(t, "and more", append(slices.Clone(v), more...))
		}
		wantEachTurned(t, v)
	}
	wantUnwrappedNot(t, "nothing", nil)
}

// wantEachTurned turns each byte of v, and holds Unwrap against isWrapped.
func wantEachTurned(t *testing.T, v []byte) {
	t.Helper()
	for i := range v {
		for range 256 {
			v[i]++
			if !isWrapped(v) {
				wantUnwrappedNot(t, "one byte turned", v)
				continue
			}
			seq := int(v[1])<<24 | int(v[2])<<16 | int(v[3])<<8 | int(v[4])
			wantUnwrapped(t, v, int(v[0]), seq, v[9:])
		}
	}
}

// TestWrapOfAnything: whatever is in it comes back, and wraps to the same bytes again.
func TestWrapOfAnything(t *testing.T) {
	rnd := rand.New(rand.NewSource(84))
	for range 5000 {
		b := make([]byte, rnd.Intn(40))
		rnd.Read(b)
		client, seq := rnd.Intn(256), int(rnd.Uint32())
		v := cmd.Wrap(client, seq, b)
		wantUnwrapped(t, v, client, seq, b)
		if again := cmd.Wrap(client+256*rnd.Intn(9), seq-1<<32*rnd.Intn(9), b); !bytes.Equal(again, v) {
			t.Errorf("P8.4: Wrap, with other bytes above the lowest: % x, want % x", again, v)
		}
	}
}

// TestWrappedCommand: a command goes through both ways.
func TestWrappedCommand(t *testing.T) {
	for _, x := range all() {
		b, _ := cmd.Encode(x.c)
		client, seq, in, ok := cmd.Unwrap(cmd.Wrap(2, 9, b))
		c, why := cmd.Decode(in)
		if client != 2 || seq != 9 || !ok || why != api.OK || show(c) != show(x.c) {
			t.Errorf("P8.4: %s, wrapped: %d, %d, %s, %v", show(x.c), client, seq, show(c), why)
		}
	}
}
