package rows_test

import (
	"bytes"
	"math/rand"
	"slices"
	"strings"
	"testing"

	"wardmote/api"
	"wardmote/octet"
	"wardmote/rows"
)

func wantBytes(t *testing.T, what string, got, want []byte) {
	t.Helper()
	if !bytes.Equal(got, want) {
		t.Errorf("%s: % x, want % x", what, got, want)
	}
}

// write answers what Write leaves in a Writer of these tables.
func write(l ...*rows.Table) []byte {
	w := octet.New()
	for _, x := range l {
		x.Write(w)
	}
	return w.Done()
}

// take answers what Take takes of b, whether all of b was taken, and whether Take came to its end.
func take(b []byte) (x *rows.Table, ok, ended bool) {
	ok = octet.Read(b, func(r *octet.Reader) {
		x = rows.Take(r)
		ended = true
	})
	return x, ok, ended
}

// raw writes by the document's words, whatever may be in a table: rows and row are not asked.
func raw(l []api.Named) []byte {
	return rawCount(uint32(len(l)), l)
}

// rawCount tells n in the place of how many there are.
func rawCount(n uint32, l []api.Named) []byte {
	w := octet.New()
	w.Num(n)
	for _, x := range l {
		w.Text([]byte(x.Name))
		rawRow(w, x.R)
	}
	return w.Done()
}

func rawRow(w *octet.Writer, r api.Row) {
	w.Byte(byte(len(r.L)))
	for _, c := range r.L {
		w.Text([]byte(c.Name))
		w.Byte(byte(len(c.L)))
		for _, v := range c.L {
			w.Long(uint64(v.Time))
			rawValue(w, v.V)
		}
	}
}

func rawValue(w *octet.Writer, v api.Value) {
	w.Byte(byte(v.Kind))
	switch v.Kind {
	case api.Text:
		w.Text(v.B)
	case api.Number:
		w.Float(v.N)
	}
}

// cursor reads bytes by the document's words, without octet; it is bad where no Write gave them.
type cursor struct {
	b   []byte
	bad bool
}

func (c *cursor) number(size int) uint64 {
	if c.bad = c.bad || len(c.b) < size; c.bad {
		return 0
	}
	var n uint64
	for _, x := range c.b[:size] {
		n = n*256 + uint64(x)
	}
	c.b = c.b[size:]
	return n
}

// between is a number of these bytes; it is bad outside of least and most.
func (c *cursor) between(size int, least, most uint64) uint64 {
	n := c.number(size)
	if c.bad = c.bad || n < least || n > most; c.bad {
		return 0
	}
	return n
}

func (c *cursor) text(least, most uint64) string {
	n := int(c.between(4, least, most))
	if c.bad = c.bad || len(c.b) < n; c.bad {
		return ""
	}
	s := string(c.b[:n])
	c.b = c.b[n:]
	return s
}

// name is a Text of 1 to 16 bytes; it is bad unless it is above last.
func (c *cursor) name(last string) string {
	s := c.text(1, 16)
	c.bad = c.bad || s <= last
	return s
}

func (c *cursor) value() {
	if c.between(1, 1, 2) == 1 {
		c.text(0, 16)
	} else if n := c.number(8); n&(1<<63-1) > 0x7ff0000000000000 && n != oneNaN {
		c.bad = true
	}
}

func (c *cursor) row() {
	last := ""
	for range c.between(1, 1, 4) {
		last = c.name(last)
		below := uint64(1<<40 + 1)
		for range c.between(1, 1, 2) {
			time := c.number(8)
			c.bad = c.bad || time >= below
			below = time
			c.value()
		}
	}
}

// isWritten tells whether a Write gave all of b.
func isWritten(b []byte) bool {
	c := &cursor{b: b}
	last := ""
	for range c.between(4, 0, 32) {
		last = c.name(last)
		c.row()
	}
	return !c.bad && len(c.b) == 0
}

// somes are tables of each kind.
func somes() [][]api.Named {
	return [][]api.Named{
		nil,
		listed("a"),
		listed(longest),
		{{Name: "\x00", R: full()}},
		listed("a", "b"),
		{{Name: "\x00", R: plain("")}, {Name: "a", R: of(col("n", at(5, number(negZero))))}, {Name: "a\x00", R: plain("x")}, {Name: "\xff", R: plain("y")}},
	}
}

func most() []api.Named {
	l := listed(counted("k", api.MaxRows)...)
	l[0].R, l[31].R = full(), full()
	return l
}

func TestWrite(t *testing.T) {
	wantBytes(t, "P6.2: Write of none", write(rows.New()), []byte{0, 0, 0, 0})
	x := made(t,
		api.Named{Name: "b", R: of(col("n", at(3, number(1))))},
		api.Named{Name: "ab", R: of(col("c", at(258, text("x"))))},
	)
	wantBytes(t, "P6.2: Write of two", write(x), []byte("\x00\x00\x00\x02"+
		"\x00\x00\x00\x02ab\x01\x00\x00\x00\x01c\x01\x00\x00\x00\x00\x00\x00\x01\x02\x01\x00\x00\x00\x01x"+
		"\x00\x00\x00\x01b\x01\x00\x00\x00\x01n\x01\x00\x00\x00\x00\x00\x00\x00\x03\x02\x3f\xf0\x00\x00\x00\x00\x00\x00"))
	if b := write(made(t, most()...)); !bytes.HasPrefix(b, []byte("\x00\x00\x00\x20\x00\x00\x00\x03k00\x04")) {
		t.Errorf("P6.2: Write of MaxRows rows: % x", b)
	}
	w := octet.New()
	w.Byte(7)
	x.Write(w)
	wantBytes(t, "P6.2: Write behind what was written", w.Done(), append([]byte{7}, write(x)...))
}

func TestTakeOfWrite(t *testing.T) {
	for _, l := range append(somes(), most()) {
		x := made(t, l...)
		got, ok, _ := take(write(x))
		if wantTable(t, "P6.2: Take of Write", got, l); !ok || !rows.Same(got, x) {
			t.Errorf("P6.2: Take of Write of %s: %v", show(l), ok)
		}
	}
}

// TestTakenTables: a table that was taken is one as any other.
func TestTakenTables(t *testing.T) {
	x, _, _ := take(raw(listed(counted("k", api.MaxRows)...)))
	wantCode(t, "P6.2: Set of one row too many, of a table that was taken", x.Set("new", plain("x")), api.ErrFull)
	wantCode(t, "P6.2: Set of none, of a table that was taken", x.Set("k01", api.Row{}), api.OK)
	wantCode(t, "P6.2: Set of a new one, of a table that was taken", x.Set("a", plain("a")), api.OK)
	wantTable(t, "P6.2: Set of a table that was taken", x, append(listed("a", "k00"), listed(counted("k", api.MaxRows)[2:]...)...))
	x, _, _ = take(raw(nil))
	wantCode(t, "P6.2: Set of an empty table that was taken", x.Set("a", plain("a")), api.OK)
	wantTable(t, "P6.2: Set of an empty table that was taken", x, listed("a"))
}

func wantFailed(t *testing.T, what string, b []byte) {
	t.Helper()
	x, ok, ended := take(b)
	if ok || ended || x != nil {
		t.Errorf("P6.2: Take of % x, %s: %v, gone on: %v, a table: %v", b, what, ok, ended, x != nil)
	}
}

func TestTakeCutOff(t *testing.T) {
	for _, l := range append(somes(), most()) {
		all := raw(l)
		for cut := range all {
			// The bytes behind the cut stand in the spare room: they must not be read.
			wantFailed(t, "cut off", all[:cut])
		}
		for _, more := range []string{"\x00", "\x01", "behind", string(raw(listed("z"))[4:])} {
			got, ok, ended := take(append(slices.Clone(all), more...))
			if wantTable(t, "P6.2: Take ahead of more bytes", got, l); ok || !ended {
				t.Errorf("P6.2: Take of % x and more: %v, gone on: %v", all, ok, ended)
			}
		}
	}
}

// wantTaken holds Take of b against isWritten.
func wantTaken(t *testing.T, what string, b []byte) {
	t.Helper()
	x, ok, ended := take(b)
	if ok != isWritten(b) || ended != (x != nil) {
		t.Errorf("P6.2: Take of % x, %s: %v, gone on: %v, a table: %v", b, what, ok, ended, x != nil)
	}
	if ok && !bytes.Equal(write(x), b) {
		t.Errorf("P6.2: Take of % x, %s: %s", b, what, show(pages(x)))
	}
}

func TestTakeTurned(t *testing.T) {
	for _, l := range somes() {
		all := raw(l)
		if !isWritten(all) {
			t.Fatalf("the test's own reading refuses % x", all)
		}
		for i := range all {
			b := slices.Clone(all)
			for range 255 {
				b[i]++
				wantTaken(t, "one byte turned", b)
			}
		}
	}
}

func TestTakeOfManyTurned(t *testing.T) {
	all := raw(most())
	for i := range all {
		for _, by := range []byte{1, 2, 0x80, 0xff} {
			b := slices.Clone(all)
			b[i] ^= by
			wantTaken(t, "one byte of MaxRows rows turned", b)
		}
	}
}

func TestTakeOfAnyBytes(t *testing.T) {
	rnd := rand.New(rand.NewSource(4))
	for range 20000 {
		b := raw(somes()[rnd.Intn(len(somes()))])
		for range 1 + rnd.Intn(3) {
			i := rnd.Intn(len(b))
			switch rnd.Intn(4) {
			case 0:
				b[i] = byte(rnd.Intn(4))
			case 1:
				b[i] = byte(rnd.Intn(256))
			case 2:
				b = slices.Insert(b, i, byte(rnd.Intn(3)))
			case 3:
				b = append(slices.Delete(b, i, i+1), 0)
			}
		}
		wantTaken(t, "any bytes", b)
	}
}

func TestTakeOfWrongNames(t *testing.T) {
	for _, l := range [][]string{
		{"b", "a"}, {"a", "a"}, {"a", "b", "b"}, {"a", "c", "b"}, {"b", "c", "a"}, {"a", "b", "a"}, {"ab", "a"}, {"a\x00", "a"}, {"\x80", "\x7f"},
		{""}, {"", "a"}, {"a", ""}, {"", ""},
		{tooLong}, {"a", tooLong}, {strings.Repeat("a", 300)}, {strings.Repeat("a", 256+1)},
	} {
		var named []api.Named
		for _, s := range l {
			named = append(named, api.Named{Name: s, R: plain("x")})
		}
		wantFailed(t, "names that are none or do not rise", raw(named))
	}
}

func TestTakeOfWrongRows(t *testing.T) {
	for _, r := range append(wrongRows(), api.Row{}) {
		bad := []api.Named{{Name: "m", R: r}}
		wantFailed(t, "a row that may not be there", raw(bad))
		wantFailed(t, "a row that may not be there, behind others", raw(append(listed("a", "b"), bad...)))
		wantFailed(t, "a row that may not be there, ahead of others", raw(append(bad, listed("n", "o")...)))
	}
}

func TestTakeOfWrongCounts(t *testing.T) {
	names := slices.Concat(counted("k0", 100), counted("k1", 100), counted("k2", 100))
	for _, n := range []int{api.MaxRows + 1, api.MaxRows + 2, 2 * api.MaxRows, 256, 257, 300} {
		wantFailed(t, "more than MaxRows rows", raw(listed(names[:n]...)))
	}
	for _, n := range []uint32{4, api.MaxRows, api.MaxRows + 1, 256, 259, 1<<16 + 3, 1<<31 + 3, 1<<32 - 1} {
		wantFailed(t, "more rows told than are there", rawCount(n, listed("a", "b", "c")))
	}
	for n := range uint32(3) {
		x, ok, ended := take(rawCount(n, listed("a", "b", "c")))
		if wantTable(t, "P6.2: Take of fewer rows than are there", x, listed("a", "b", "c")[:n]); ok || !ended {
			t.Errorf("P6.2: Take of fewer rows than are there: %v, gone on: %v", ok, ended)
		}
	}
	// Where there are too many, it is told ahead of the rows: they need not be there.
	wantFailed(t, "too many, and nothing behind", rawCount(api.MaxRows+1, nil))
}

// TestManyInARow: Take takes what one Write wrote, and not a byte of the next one.
func TestManyInARow(t *testing.T) {
	var all []*rows.Table
	for _, l := range append(somes(), most(), nil) {
		all = append(all, made(t, l...))
	}
	ok := octet.Read(write(all...), func(r *octet.Reader) {
		for i, x := range all {
			if got := rows.Take(r); !rows.Same(got, x) {
				t.Errorf("P6.2: Take of many: table %d is another one", i)
			}
			if left := len(write(all[i+1:]...)); r.Left() != left {
				t.Errorf("P6.2: Take of many: %d bytes are left, want %d", r.Left(), left)
			}
		}
	})
	if !ok {
		t.Error("P6.2: tables that were written are not taken")
	}
}

func TestNilObjects(t *testing.T) {
	for _, l := range append(somes(), most()) {
		made(t, l...).Write(nil)
	}
	if rows.Take(nil) != nil {
		t.Error("R1: Take of a nil Reader: a table")
	}
}

func TestTakeBehindItsRead(t *testing.T) {
	for _, l := range somes() {
		var kept *octet.Reader
		octet.Read(raw(l), func(r *octet.Reader) { kept = r })
		if rows.Take(kept) != nil {
			t.Error("R1: Take of a Reader whose Read has ended: a table")
		}
	}
}
