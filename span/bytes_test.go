package span_test

import (
	"bytes"
	"math/rand"
	"slices"
	"strings"
	"testing"

	"wardmote/api"
	"wardmote/octet"
	"wardmote/span"
)

// bytesOf is what Write leaves in a Writer of these.
func bytesOf(l ...api.Span) []byte {
	w := octet.New()
	for _, s := range l {
		span.Write(w, s)
	}
	return w.Done()
}

// raw is two lengths and texts by the document's words: neither span nor octet is asked.
func raw(s api.Span) []byte {
	var b []byte
	for _, x := range []string{s.Lo, s.Hi} {
		n := len(x)
		b = append(b, byte(n>>24), byte(n>>16), byte(n>>8), byte(n))
		b = append(b, x...)
	}
	return b
}

// read is what is taken of b, whether all of b was, and whether the taking came to its end.
func read(b []byte) (s api.Span, ok, ended bool) {
	ok = octet.Read(b, func(r *octet.Reader) {
		s = span.Take(r)
		ended = true
	})
	return s, ok, ended
}

// isWritten tells, by the document's words, whether a Write of a Right span gave all of b.
func isWritten(b []byte) bool {
	var ends []string
	for range 2 {
		if len(b) < 4 || b[0] > 0 || b[1] > 0 || b[2] > 0 || b[3] > 16 || len(b) < 4+int(b[3]) {
			return false
		}
		n := 4 + int(b[3])
		ends = append(ends, string(b[4:n]))
		b = b[n:]
	}
	return len(b) == 0 && (ends[1] == "" || ends[0] < ends[1])
}

func TestWrite(t *testing.T) {
	for _, c := range []struct {
		s    api.Span
		want string
	}{
		{of("", ""), "\x00\x00\x00\x00\x00\x00\x00\x00"},
		{of("a", ""), "\x00\x00\x00\x01a\x00\x00\x00\x00"},
		{of("", "bc"), "\x00\x00\x00\x00\x00\x00\x00\x02bc"},
		{of("a", "bc"), "\x00\x00\x00\x01a\x00\x00\x00\x02bc"},
		{of("\x00\xff", longest), "\x00\x00\x00\x02\x00\xff\x00\x00\x00\x10" + longest},
		{of("b", "a"), "\x00\x00\x00\x01b\x00\x00\x00\x01a"},
		{of(tooLong, ""), "\x00\x00\x00\x11" + tooLong + "\x00\x00\x00\x00"},
	} {
		if got := bytesOf(c.s); string(got) != c.want {
			t.Errorf("P7.2: Write of %s: % x, want % x", show(c.s), got, c.want)
		}
	}
	w := octet.New()
	w.Byte(9)
	span.Write(w, of("a", "b"))
	if got := string(w.Done()); got != "\x09\x00\x00\x00\x01a\x00\x00\x00\x01b" {
		t.Errorf("P7.2: Write behind what was written: % x", got)
	}
}

func TestBack(t *testing.T) {
	for _, s := range rightSpans() {
		if got := bytesOf(s); !bytes.Equal(got, raw(s)) || !isWritten(got) {
			t.Errorf("P7.2: Write of %s: % x, want % x", show(s), got, raw(s))
		}
		if got, ok, _ := read(bytesOf(s)); !ok || got != s {
			t.Errorf("P7.2: Take of %s: %s, %v", show(s), show(got), ok)
		}
	}
}

func wantFailed(t *testing.T, what string, b []byte) {
	t.Helper()
	s, ok, ended := read(b)
	if ok || ended || s != of("", "") {
		t.Errorf("P7.2: Take of % .60x, %s: %s, %v, gone on: %v", b, what, show(s), ok, ended)
	}
}

func TestTakeOfWrongOnes(t *testing.T) {
	for _, s := range wrongSpans() {
		wantFailed(t, "not Right", raw(s))
		wantFailed(t, "not Right, with more behind it", append(raw(s), raw(of("a", "b"))...))
		wantFailed(t, "not Right, as Write leaves it", bytesOf(s))
	}
}

// TestWriteOfWhatIsNotRight: it is written as it stands, as far as octet has Texts of it.
func TestWriteOfWhatIsNotRight(t *testing.T) {
	most := strings.Repeat("m", api.MaxBytes)
	for _, s := range append(wrongSpans(), of(most, ""), of("", most)) {
		if len(s.Lo) <= api.MaxBytes && len(s.Hi) <= api.MaxBytes && !bytes.Equal(bytesOf(s), raw(s)) {
			t.Errorf("P7.2: Write of %s: % .60x", show(s), bytesOf(s))
		}
	}
	if got := bytesOf(of(huge(), "ab")); string(got) != "\x00\x00\x00\x02ab" {
		t.Errorf("P7.2: Write of a Lo that is no Text: % .60x", got)
	}
	if got := bytesOf(of("ab", huge())); string(got) != "\x00\x00\x00\x02ab" {
		t.Errorf("P7.2: Write of a Hi that is no Text: % .60x", got)
	}
}

func TestCutOff(t *testing.T) {
	for _, s := range rightSpans() {
		all := bytesOf(s)
		for cut := range all {
			// The bytes behind the cut stand in the spare room: they must not be read.
			wantFailed(t, "cut off", all[:cut])
		}
		for _, more := range []string{"\x00", "\x01", "behind", "\x00\x00\x00\x00"} {
			got, ok, ended := read(append(slices.Clone(all), more...))
			if ok || !ended || got != s {
				t.Errorf("P7.2: Take of % x and %d more: %s, %v, gone on: %v", all, len(more), show(got), ok, ended)
			}
		}
	}
}

// wantTaken holds what is taken of b against isWritten.
func wantTaken(t *testing.T, what string, b []byte) {
	t.Helper()
	s, ok, _ := read(b)
	if ok != isWritten(b) || ok && !bytes.Equal(raw(s), b) {
		t.Errorf("P7.2: Take of % x, %s: %s, %v", b, what, show(s), ok)
	}
}

func TestTurned(t *testing.T) {
	for _, s := range rightSpans() {
		b := bytesOf(s)
		for i := range b {
			for range 256 {
				b[i]++
				wantTaken(t, "one byte turned", b)
			}
		}
	}
}

func TestAnyBytes(t *testing.T) {
	rnd := rand.New(rand.NewSource(7))
	all := rightSpans()
	for range 30000 {
		b := bytesOf(all[rnd.Intn(len(all))])
		for range 1 + rnd.Intn(3) {
			i := rnd.Intn(len(b))
			switch rnd.Intn(4) {
			case 0:
				b[i] = byte(rnd.Intn(18))
			case 1:
				b[i] = byte(rnd.Intn(256))
			case 2:
				b = slices.Insert(b, i, byte(rnd.Intn(3)))
			case 3:
				b = append(slices.Delete(b, i, i+1), 0)
			}
		}
		wantTaken(t, "any bytes", b)
	}
}

// TestManyInARow: what is taken is what was written once, and not a byte of the next one.
func TestManyInARow(t *testing.T) {
	all := rightSpans()
	ok := octet.Read(bytesOf(all...), func(r *octet.Reader) {
		for i, s := range all {
			if got := span.Take(r); got != s {
				t.Errorf("P7.2: Take, of many: %s, want %s", show(got), show(s))
			}
			if left := len(bytesOf(all[i+1:]...)); r.Left() != left {
				t.Errorf("P7.2: Take, of many: %d bytes are left, want %d", r.Left(), left)
			}
		}
	})
	if !ok {
		t.Error("P7.2: many that were written are not taken")
	}
}

func TestNilObjects(t *testing.T) {
	if got := span.Take(nil); got != of("", "") {
		t.Errorf("R1: Take of a nil Reader: %s", show(got))
	}
	for _, s := range append(rightSpans(), wrongSpans()...) {
		span.Write(nil, s)
		var kept *octet.Reader
		octet.Read(raw(s), func(r *octet.Reader) { kept = r })
		if got := span.Take(kept); got != of("", "") {
			t.Errorf("R1: Take of a Reader whose Read has ended: %s", show(got))
		}
	}
}

// TestTakeKeepsNothing: the bytes stay as they are, and the span stays where they do not.
func TestTakeKeepsNothing(t *testing.T) {
	for _, s := range rightSpans() {
		all := append(raw(s), "room"...)
		before := slices.Clone(all)
		b := all[:len(all)-4]
		got, ok, _ := read(b)
		if !ok || !bytes.Equal(all, before) {
			t.Errorf("R2: Take of %s: %v, the bytes and their room: % x", show(s), ok, all)
		}
		for i := range all {
			all[i] = 'q'
		}
		if got != s {
			t.Errorf("R2: what was taken is not by itself: %s, want %s", show(got), show(s))
		}
	}
}
