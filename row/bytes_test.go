package row_test

import (
	"bytes"
	"math/rand"
	"slices"
	"strings"
	"testing"

	"wardmote/api"
	"wardmote/octet"
	"wardmote/row"
	"wardmote/value"
)

func wantBytes(t *testing.T, what string, got, want []byte) {
	t.Helper()
	if !bytes.Equal(got, want) {
		t.Errorf("%s: % x, want % x", what, got, want)
	}
}

// write answers what Write leaves in a Writer of these rows.
func write(l ...api.Row) []byte {
	w := octet.New()
	for _, r := range l {
		row.Write(w, r)
	}
	return w.Done()
}

// take answers what Take takes of b, whether all of b was taken, and whether Take came to its end.
func take(b []byte) (r api.Row, ok, ended bool) {
	ok = octet.Read(b, func(p *octet.Reader) {
		r = row.Take(p)
		ended = true
	})
	return r, ok, ended
}

// raw writes r as the document says it, Right or not: row is not asked.
func raw(r api.Row) []byte {
	w := octet.New()
	w.Byte(byte(len(r.L)))
	for _, c := range r.L {
		w.Text([]byte(c.Name))
		w.Byte(byte(len(c.L)))
		for _, v := range c.L {
			w.Long(uint64(v.Time))
			value.Put(w, v.V)
		}
	}
	return w.Done()
}

// cursor reads bytes by the document's words, without octet; it is bad where no Write gave them.
type cursor struct {
	b   []byte
	bad bool
}

func (c *cursor) number(size int) uint64 {
	if c.bad = c.bad || len(c.b) < size; c.bad {
		return 0
	}
	var n uint64
	for _, x := range c.b[:size] {
		n = n*256 + uint64(x)
	}
	c.b = c.b[size:]
	return n
}

// between is a number of these bytes; it is bad outside of least and most.
func (c *cursor) between(size int, least, most uint64) uint64 {
	n := c.number(size)
	if c.bad = c.bad || n < least || n > most; c.bad {
		return 0
	}
	return n
}

func (c *cursor) text(least, most uint64) string {
	n := int(c.between(4, least, most))
	if c.bad = c.bad || len(c.b) < n; c.bad {
		return ""
	}
	s := string(c.b[:n])
	c.b = c.b[n:]
	return s
}

func (c *cursor) value() {
	if c.between(1, 1, 2) == 1 {
		c.text(0, 16)
	} else if n := c.number(8); n&(1<<63-1) > 0x7ff0000000000000 && n != oneNaN {
		c.bad = true
	}
}

func (c *cursor) column(last string) string {
	name := c.text(1, 16)
	c.bad = c.bad || name <= last
	below := uint64(1<<40 + 1)
	for range c.between(1, 1, 2) {
		time := c.number(8)
		c.bad = c.bad || time >= below
		below = time
		c.value()
	}
	return name
}

// isWritten tells whether a Write of a row that is Right gave all of b.
func isWritten(b []byte) bool {
	c := &cursor{b: b}
	last := ""
	for range c.between(1, 0, 4) {
		last = c.column(last)
	}
	return !c.bad && len(c.b) == 0
}

func TestWrite(t *testing.T) {
	wantBytes(t, "P4.3: Write of an empty row", write(api.Row{}), []byte{0})
	wantBytes(t, "P4.3: Write of no columns", write(api.Row{L: []api.Column{}}), []byte{0})
	wantBytes(t, "P4.3: Write of one", write(of(col("ab", at(258, text("x")), at(3, number(1))))),
		[]byte("\x01\x00\x00\x00\x02ab\x02\x00\x00\x00\x00\x00\x00\x01\x02\x01\x00\x00\x00\x01x\x00\x00\x00\x00\x00\x00\x00\x03\x02\x3f\xf0\x00\x00\x00\x00\x00\x00"))
	wantBytes(t, "P4.3: Write of two columns", write(of(col("\x00", at(api.MaxTime, text(""))), col(longest, at(0, number(negZero))))),
		[]byte("\x02\x00\x00\x00\x01\x00\x01\x00\x00\x01\x00\x00\x00\x00\x00\x01\x00\x00\x00\x00\x00\x00\x00\x10"+longest+"\x01\x00\x00\x00\x00\x00\x00\x00\x00\x02\x80\x00\x00\x00\x00\x00\x00\x00"))
	bears := of(col("a", at(2, api.Value{Kind: api.Text, B: []byte("x"), N: 5}), at(1, ofBits(0xfff0000000000009))))
	wantBytes(t, "P4.3: Write of values that bear more", write(bears), raw(row.Copy(bears)))
	for _, r := range rightRows() {
		wantBytes(t, "P4.3: Write", write(r), raw(r))
	}
}

func TestTakeOfWrite(t *testing.T) {
	for _, r := range rightRows() {
		got, ok, _ := take(write(r))
		if want(t, "P4.3: Take of Write", got, r); !ok {
			t.Errorf("P4.3: Take of Write of %s: false", show(r))
		}
	}
	for _, c := range wrongRows() {
		got, ok, _ := take(write(c.r))
		if want(t, "P4.3: Take of Write, "+c.why, got, api.Row{}); !ok {
			t.Errorf("P4.3: Take of Write, %s: false", c.why)
		}
	}
}

func wantFailed(t *testing.T, what string, b []byte) {
	t.Helper()
	r, ok, ended := take(b)
	if ok || ended || len(r.L) > 0 {
		t.Errorf("%s: Take of % x: %v, gone on: %v, %s", what, b, ok, ended, show(r))
	}
}

func TestTakeCutOff(t *testing.T) {
	for _, r := range rightRows() {
		all := write(r)
		for cut := range all {
			// The bytes behind the cut stand in the spare room: they must not be read.
			wantFailed(t, "P4.3: cut off", all[:cut])
		}
		for _, more := range []string{"\x00", "\x01", "behind"} {
			got, ok, ended := take(append(slices.Clone(all), more...))
			if want(t, "P4.3: Take ahead of more bytes", got, r); ok || !ended {
				t.Errorf("P4.3: Take of % x and more: %v, gone on: %v", all, ok, ended)
			}
		}
	}
}

// wantTaken holds Take of b against isWritten.
func wantTaken(t *testing.T, what string, b []byte) {
	t.Helper()
	r, ok, _ := take(b)
	if ok != isWritten(b) {
		t.Errorf("%s: Take of % x: %v", what, b, ok)
	}
	if ok && (!row.Right(r) || !bytes.Equal(write(r), b)) {
		t.Errorf("%s: Take of % x: %s", what, b, show(r))
	}
}

func TestTakeTurned(t *testing.T) {
	for _, r := range rightRows() {
		all := write(r)
		if !isWritten(all) {
			t.Fatalf("the test's own reading refuses % x", all)
		}
		for i := range all {
			b := slices.Clone(all)
			for range 255 {
				b[i]++
				wantTaken(t, "P4.3: one byte turned", b)
			}
		}
	}
}

func TestTakeOfAnyBytes(t *testing.T) {
	rnd := rand.New(rand.NewSource(4))
	for range 20000 {
		b := write(rightRows()[rnd.Intn(len(rightRows()))])
		for range 1 + rnd.Intn(3) {
			i := rnd.Intn(len(b))
			switch rnd.Intn(4) {
			case 0:
				b[i] = byte(rnd.Intn(4))
			case 1:
				b[i] = byte(rnd.Intn(256))
			case 2:
				b = slices.Insert(b, i, byte(rnd.Intn(3)))
			case 3:
				b = append(slices.Delete(b, i, i+1), 0)
			}
		}
		wantTaken(t, "P4.3: any bytes", b)
	}
}

func TestTakeOfWrongRows(t *testing.T) {
	for _, c := range wrongRows() {
		if len(c.r.L) < 256 {
			wantFailed(t, "P4.3: "+c.why, raw(c.r))
		}
	}
	wantFailed(t, "P4.3: as many columns as a Byte can tell", raw(of(slices.Repeat(named("a").L, 255)...)))
	wantFailed(t, "P4.3: as many versions as a Byte can tell", raw(of(col("a", slices.Repeat(plain(1), 255)...))))
	wantFailed(t, "P4.3: a long Name", raw(named(strings.Repeat("a", 300))))
	for n := range 256 {
		// One column is there, and Kind n, of an empty Text's bytes or a Number's.
		head := []byte("\x01\x00\x00\x00\x01a\x01\x00\x00\x00\x00\x00\x00\x00\x05")
		for _, tail := range []string{"", "\x00\x00\x00\x00", "\x00\x00\x00\x01x", "\x3f\xf0\x00\x00\x00\x00\x00\x00"} {
			b := slices.Concat(head, []byte{byte(n)}, []byte(tail))
			if n != api.Text && n != api.Number {
				wantFailed(t, "P4.3: a Byte that is neither Kind", b)
			}
			wantTaken(t, "P4.3: each Kind", b)
		}
	}
}

// someRow is one that is Right, of any kind.
func someRow(rnd *rand.Rand) api.Row {
	var r api.Row
	names := []string{"\x00", "a", "aa", "b", longest, "\xff"}
	for _, name := range names {
		if rnd.Intn(2) == 0 && len(r.L) < api.MaxColumns {
			r.L = append(r.L, col(name, someVersions(rnd)...))
		}
	}
	return r
}

func someVersions(rnd *rand.Rand) []api.Version {
	time := rnd.Int63n(api.MaxTime)
	l := []api.Version{at(time+1, someValue(rnd))}
	if rnd.Intn(2) == 0 {
		l = append(l, at(time-rnd.Int63n(time+1), someValue(rnd)))
	}
	return l
}

func someValue(rnd *rand.Rand) api.Value {
	switch rnd.Intn(4) {
	case 0:
		return number(rnd.NormFloat64())
	case 1:
		return []api.Value{number(0), number(negZero), ofBits(oneNaN), ofBits(0x7ff0000000000000)}[rnd.Intn(4)]
	}
	b := make([]byte, rnd.Intn(api.MaxText+1))
	rnd.Read(b)
	return api.Value{Kind: api.Text, B: b}
}

// TestManyInARow: Take takes what one Write wrote, and not a byte of the next one.
func TestManyInARow(t *testing.T) {
	rnd := rand.New(rand.NewSource(5))
	for range 300 {
		l := make([]api.Row, rnd.Intn(6))
		for i := range l {
			l[i] = someRow(rnd)
		}
		ok := octet.Read(write(l...), func(p *octet.Reader) {
			for i, r := range l {
				want(t, "P4.3: Take of many", row.Take(p), r)
				if left := len(write(l[i+1:]...)); p.Left() != left {
					t.Errorf("P4.3: Take of many: %d bytes are left, want %d", p.Left(), left)
				}
			}
		})
		if !ok {
			t.Errorf("P4.3: %d rows that were written are not taken", len(l))
		}
	}
}

func TestNilObjects(t *testing.T) {
	for _, r := range []api.Row{{}, full(), named("b", "a")} {
		row.Write(nil, r)
	}
	want(t, "R1: Take of a nil Reader", row.Take(nil), api.Row{})
}

func TestTakeBehindItsRead(t *testing.T) {
	var kept *octet.Reader
	octet.Read(write(full()), func(p *octet.Reader) { kept = p })
	want(t, "R1: Take of a Reader whose Read has ended", row.Take(kept), api.Row{})
}
