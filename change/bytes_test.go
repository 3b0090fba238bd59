package change_test

import (
	"bytes"
	"math"
	"math/rand"
	"slices"
	"strings"
	"testing"

	"wardmote/api"
	"wardmote/change"
	"wardmote/octet"
	"wardmote/value"
)

// side is what Changes and Conds have in common as bytes.
type side[T any] struct {
	name      string
	write     func(w *octet.Writer, x T)
	take      func(r *octet.Reader) T
	raw       func(x T) []byte
	show      func(x T) string
	isWritten func(b []byte) bool
	right     func() []T
}

func changes() side[api.Change] {
	return side[api.Change]{"Change", change.Write, change.Take, rawChange, showChange, isChange, rightChanges}
}

func conds() side[api.Cond] {
	return side[api.Cond]{"Cond", change.WriteCond, change.TakeCond, rawCond, showCond, isCond, rightConds}
}

// bytesOf is what is left in a Writer of these.
func (s side[T]) bytesOf(l ...T) []byte {
	w := octet.New()
	for _, x := range l {
		s.write(w, x)
	}
	return w.Done()
}

// read is what is taken of b, whether all of b was, and whether the taking came to its end.
func (s side[T]) read(b []byte) (x T, ok, ended bool) {
	ok = octet.Read(b, func(r *octet.Reader) {
		x = s.take(r)
		ended = true
	})
	return x, ok, ended
}

// rawChange writes by the document's words, Right or not: change is not asked.
func rawChange(c api.Change) []byte {
	w := octet.New()
	w.Byte(byte(c.Kind))
	if c.Kind != api.DropRow {
		w.Text([]byte(c.Col))
	}
	if c.Kind != api.DropRow && c.Kind != api.DropCol {
		w.Long(uint64(c.Time))
	}
	if c.Kind == api.Put || c.Kind == api.Add {
		value.Put(w, c.V)
	}
	return w.Done()
}

func rawCond(c api.Cond) []byte {
	w := octet.New()
	switch {
	case !c.Has:
		w.Byte(0)
	case !c.Want:
		w.Byte(1)
		w.Text([]byte(c.Col))
	default:
		w.Byte(2)
		w.Text([]byte(c.Col))
		value.Put(w, c.V)
	}
	return w.Done()
}

// asked is c with what its Kind asks alone, as it is to come back.
func asked(c api.Change) api.Change {
	switch c.Kind {
	case api.DropRow:
		return dropRow()
	case api.DropCol:
		return dropCol(c.Col)
	case api.Drop:
		return drop(c.Col, c.Time)
	}
	return api.Change{Kind: c.Kind, Col: c.Col, Time: c.Time, V: value.Canon(c.V)}
}

func askedCond(c api.Cond) api.Cond {
	switch {
	case !c.Has:
		return api.Cond{}
	case !c.Want:
		return none(c.Col)
	}
	return is(c.Col, value.Canon(c.V))
}

// rightChanges are some of each Kind, with what is asked alone.
func rightChanges() []api.Change {
	l := list(dropRow())
	for _, name := range rightNames() {
		l = append(l, dropCol(name))
		for _, time := range rightTimes() {
			l = append(l, drop(name, time), put(name, time, text("v")), add(name, time, 258))
		}
	}
	for _, v := range append(rightTexts(), rightNumbers()...) {
		l = append(l, put("a", 258, value.Canon(v)))
	}
	for _, v := range rightNumbers() {
		l = append(l, api.Change{Kind: api.Add, Col: "a", Time: 258, V: value.Canon(v)})
	}
	return l
}

func rightConds() []api.Cond {
	l := []api.Cond{{}}
	for _, name := range rightNames() {
		l = append(l, none(name), is(name, text("v")), is(name, number(258)))
	}
	for _, v := range append(rightTexts(), rightNumbers()...) {
		l = append(l, is("a", value.Canon(v)))
	}
	return l
}

// cursor reads bytes by the document's words, without octet; it is bad where no Write gave them.
type cursor struct {
	b   []byte
	bad bool
}

func (c *cursor) number(size int) uint64 {
	if c.bad = c.bad || len(c.b) < size; c.bad {
		return 0
	}
	var n uint64
	for _, x := range c.b[:size] {
		n = n*256 + uint64(x)
	}
	c.b = c.b[size:]
	return n
}

// between is a number of these bytes; it is bad outside of least and most.
func (c *cursor) between(size int, least, most uint64) uint64 {
	n := c.number(size)
	if c.bad = c.bad || n < least || n > most; c.bad {
		return 0
	}
	return n
}

func (c *cursor) text(least, most uint64) {
	n := int(c.between(4, least, most))
	if c.bad = c.bad || len(c.b) < n; !c.bad {
		c.b = c.b[n:]
	}
}

// value is one of a Kind from least to 2.
func (c *cursor) value(least uint64) {
	if c.between(1, least, 2) == 1 {
		c.text(0, 16)
	} else if n := c.number(8); n&(1<<63-1) > 0x7ff0000000000000 && n != oneNaN {
		c.bad = true
	}
}

func (c *cursor) ended() bool {
	return !c.bad && len(c.b) == 0
}

// isChange tells whether a Write of a Change that is Right gave all of b.
func isChange(b []byte) bool {
	c := &cursor{b: b}
	kind := c.between(1, 1, 5)
	if kind != 4 {
		c.text(1, 16)
	}
	if kind != 4 && kind != 3 {
		c.between(8, 0, 1<<40)
	}
	if kind == 1 {
		c.value(1)
	}
	if kind == 5 {
		c.value(2)
	}
	return c.ended()
}

// isCond tells whether a WriteCond of a Cond that is right gave all of b.
func isCond(b []byte) bool {
	c := &cursor{b: b}
	kind := c.between(1, 0, 2)
	if kind > 0 {
		c.text(1, 16)
	}
	if kind == 2 {
		c.value(1)
	}
	return c.ended()
}

func wantBytes(t *testing.T, what string, got []byte, want string) {
	t.Helper()
	if string(got) != want {
		t.Errorf("P5.3: %s: % x, want % x", what, got, want)
	}
}

func TestWrite(t *testing.T) {
	x := api.Value{Kind: api.Text, B: []byte("x"), N: 7}
	for _, c := range []struct {
		c    api.Change
		want string
	}{
		{api.Change{Kind: api.Put, Col: "ab", Time: 258, V: x}, "\x01\x00\x00\x00\x02ab\x00\x00\x00\x00\x00\x00\x01\x02\x01\x00\x00\x00\x01x"},
		{api.Change{Kind: api.Put, Col: "a", Time: 0, V: number(1)}, "\x01\x00\x00\x00\x01a\x00\x00\x00\x00\x00\x00\x00\x00\x02\x3f\xf0\x00\x00\x00\x00\x00\x00"},
		{api.Change{Kind: api.Drop, Col: "a", Time: api.MaxTime, V: x}, "\x02\x00\x00\x00\x01a\x00\x00\x01\x00\x00\x00\x00\x00"},
		{api.Change{Kind: api.DropCol, Col: longest, Time: 258, V: x}, "\x03\x00\x00\x00\x10" + longest},
		{api.Change{Kind: api.DropRow, Col: "ab", Time: 258, V: x}, "\x04"},
		{api.Change{Kind: api.Add, Col: "\x00", Time: 1, V: number(negZero)}, "\x05\x00\x00\x00\x01\x00\x00\x00\x00\x00\x00\x00\x00\x01\x02\x80\x00\x00\x00\x00\x00\x00\x00"},
		{api.Change{Kind: api.Add, Col: "a", Time: 1, V: ofBits(0xfff0000000000009)}, "\x05\x00\x00\x00\x01a\x00\x00\x00\x00\x00\x00\x00\x01\x02\x7f\xf8\x00\x00\x00\x00\x00\x01"},
	} {
		wantBytes(t, "Write of "+showChange(c.c), changes().bytesOf(c.c), c.want)
	}
}

func TestWriteCond(t *testing.T) {
	x := api.Value{Kind: api.Text, B: []byte("x"), N: 7}
	for _, c := range []struct {
		c    api.Cond
		want string
	}{
		{api.Cond{}, "\x00"},
		{api.Cond{Want: true, Col: "ab", V: x}, "\x00"},
		{api.Cond{Has: true, Col: "ab", V: x}, "\x01\x00\x00\x00\x02ab"},
		{api.Cond{Has: true, Want: true, Col: "ab", V: x}, "\x02\x00\x00\x00\x02ab\x01\x00\x00\x00\x01x"},
		{api.Cond{Has: true, Want: true, Col: longest, V: number(1)}, "\x02\x00\x00\x00\x10" + longest + "\x02\x3f\xf0\x00\x00\x00\x00\x00\x00"},
	} {
		wantBytes(t, "WriteCond of "+showCond(c.c), conds().bytesOf(c.c), c.want)
	}
}

// wantBack asks that s's bytes of x come back as back.
func (s side[T]) wantBack(t *testing.T, x, back T) {
	t.Helper()
	wantBytes(t, s.name+" "+s.show(x)+" as bytes", s.bytesOf(x), string(s.raw(x)))
	got, ok, _ := s.read(s.bytesOf(x))
	if !ok || s.show(got) != s.show(back) {
		t.Errorf("P5.3: %s %s as bytes: back: %v, %s, want %s", s.name, s.show(x), ok, s.show(got), s.show(back))
	}
}

func TestBack(t *testing.T) {
	for _, c := range rightChanges() {
		changes().wantBack(t, c, c)
	}
	for _, c := range rightConds() {
		conds().wantBack(t, c, c)
	}
}

// TestBackOfWhatIsNotAsked: it is not written, and comes back as zero.
func TestBackOfWhatIsNotAsked(t *testing.T) {
	for _, kind := range kinds {
		for _, v := range append(rightNumbers(), rightTexts()...) {
			if c := (api.Change{Kind: kind, Col: "ab", Time: 258, V: v}); change.Right(c) == api.OK {
				changes().wantBack(t, c, asked(c))
			}
		}
	}
	odd := api.Change{Kind: api.DropRow, Col: tooLong, Time: -1, V: text(tooLong)}
	changes().wantBack(t, odd, dropRow())
	odd.Kind, odd.Col = api.DropCol, "a"
	changes().wantBack(t, odd, dropCol("a"))
	odd.Kind, odd.Time = api.Drop, 5
	changes().wantBack(t, odd, drop("a", 5))
	for _, v := range append(wrongValues(), rightTexts()...) {
		conds().wantBack(t, api.Cond{Want: true, Col: "ab", V: v}, api.Cond{})
		conds().wantBack(t, api.Cond{Col: tooLong, V: v}, api.Cond{})
		conds().wantBack(t, api.Cond{Has: true, Col: "ab", V: v}, none("ab"))
	}
	for _, v := range append(rightNumbers(), rightTexts()...) {
		conds().wantBack(t, is("ab", v), askedCond(is("ab", v)))
	}
}

func (s side[T]) wantFailed(t *testing.T, what string, b []byte) {
	t.Helper()
	var zero T
	x, ok, ended := s.read(b)
	if ok || ended || s.show(x) != s.show(zero) {
		t.Errorf("P5.3: %s of % x, %s: %v, gone on: %v, %s", s.name, b, what, ok, ended, s.show(x))
	}
}

func (s side[T]) testCutOff(t *testing.T) {
	for _, x := range s.right() {
		all := s.bytesOf(x)
		for cut := range all {
			// The bytes behind the cut stand in the spare room: they must not be read.
			s.wantFailed(t, "cut off", all[:cut])
		}
		for _, more := range []string{"\x00", "\x01", "behind"} {
			got, ok, ended := s.read(append(slices.Clone(all), more...))
			if ok || !ended || s.show(got) != s.show(x) {
				t.Errorf("P5.3: %s of % x and more: %v, gone on: %v, %s", s.name, all, ok, ended, s.show(got))
			}
		}
	}
}

func TestCutOff(t *testing.T) {
	changes().testCutOff(t)
	conds().testCutOff(t)
}

// wantTaken holds what is taken of b against isWritten.
func (s side[T]) wantTaken(t *testing.T, what string, b []byte) {
	t.Helper()
	x, ok, _ := s.read(b)
	if ok != s.isWritten(b) {
		t.Errorf("P5.3: %s of % x, %s: %v", s.name, b, what, ok)
	}
	if ok && !bytes.Equal(s.bytesOf(x), b) {
		t.Errorf("P5.3: %s of % x, %s: %s", s.name, b, what, s.show(x))
	}
}

func (s side[T]) testTurned(t *testing.T) {
	for _, x := range s.right() {
		all := s.bytesOf(x)
		if !s.isWritten(all) {
			t.Fatalf("the test's own reading refuses % x", all)
		}
		for i := range all {
			b := slices.Clone(all)
			for range 255 {
				b[i]++
				s.wantTaken(t, "one byte turned", b)
			}
		}
	}
}

func TestTurned(t *testing.T) {
	changes().testTurned(t)
	conds().testTurned(t)
}

func (s side[T]) testAnyBytes(t *testing.T) {
	rnd := rand.New(rand.NewSource(4))
	for range 20000 {
		b := s.bytesOf(s.right()[rnd.Intn(len(s.right()))])
		for range 1 + rnd.Intn(3) {
			i := rnd.Intn(len(b))
			switch rnd.Intn(4) {
			case 0:
				b[i] = byte(rnd.Intn(6))
			case 1:
				b[i] = byte(rnd.Intn(256))
			case 2:
				b = slices.Insert(b, i, byte(rnd.Intn(6)))
			case 3:
				b = append(slices.Delete(b, i, i+1), 0)
			}
		}
		s.wantTaken(t, "any bytes", b)
	}
}

func TestAnyBytes(t *testing.T) {
	changes().testAnyBytes(t)
	conds().testAnyBytes(t)
}

// TestTakeOfWrongChanges: bytes of what is not Right, written by the test itself.
func TestTakeOfWrongChanges(t *testing.T) {
	for _, kind := range []int{api.Put, api.Drop, api.DropCol, api.Add} {
		for _, name := range wrongNames() {
			changes().wantFailed(t, "no Name", rawChange(api.Change{Kind: kind, Col: name, Time: 5, V: number(1)}))
		}
	}
	for _, kind := range []int{api.Put, api.Drop, api.Add} {
		for _, time := range wrongTimes() {
			changes().wantFailed(t, "no Time", rawChange(api.Change{Kind: kind, Col: "a", Time: time, V: number(1)}))
		}
	}
	for _, kind := range []int{api.Put, api.Add} {
		for _, v := range wrongValues() {
			changes().wantFailed(t, "no value", rawChange(api.Change{Kind: kind, Col: "a", Time: 5, V: v}))
		}
	}
	for _, v := range rightTexts() {
		changes().wantFailed(t, "Add of a Text", rawChange(api.Change{Kind: api.Add, Col: "a", Time: 5, V: v}))
	}
}

func TestTakeOfEachKind(t *testing.T) {
	tails := []string{"", "\x00", "\x00\x00\x00\x01a", string(rawChange(drop("a", 5))[1:]), string(rawChange(plain(api.Put))[1:]), strings.Repeat("\x00", 40)}
	for kind := range 256 {
		for _, tail := range tails {
			b := append([]byte{byte(kind)}, tail...)
			if kind < api.Put || kind > api.Add {
				changes().wantFailed(t, "a Kind that is none", b)
			}
			changes().wantTaken(t, "each Kind", b)
			if kind > 2 {
				conds().wantFailed(t, "a Byte above 2", b)
			}
			conds().wantTaken(t, "each Byte", b)
		}
	}
}

func TestTakeOfWrongConds(t *testing.T) {
	for _, name := range wrongNames() {
		conds().wantFailed(t, "no Name", rawCond(none(name)))
		conds().wantFailed(t, "no Name", rawCond(is(name, text("x"))))
	}
	for _, v := range wrongValues() {
		conds().wantFailed(t, "no value", rawCond(is("a", v)))
	}
}

// TestWriteOfWhatIsNotRight: what Write leaves of it is not taken for anything else.
func TestWriteOfWhatIsNotRight(t *testing.T) {
	for _, kind := range []int{0, 6, 7, 255, 256, 257, 258, 259, 260, 261, -1, -251, -252, math.MinInt, math.MaxInt, math.MinInt + api.DropRow} {
		c := plain(kind)
		changes().wantFailed(t, "a Kind that is none", changes().bytesOf(c))
	}
	wantBytes(t, "Write of Kind 0", changes().bytesOf(plain(0)), "\x00")
	wantBytes(t, "Write of Kind 6", changes().bytesOf(plain(6)), "\x06")
	wantBytes(t, "Write of Kind 255", changes().bytesOf(plain(255)), "\xff")
	for _, kind := range kinds {
		for _, name := range append(wrongNames(), "a") {
			for _, time := range append(wrongTimes(), 5) {
				for _, v := range append(wrongValues(), number(1), text("x")) {
					c := api.Change{Kind: kind, Col: name, Time: time, V: v}
					wantBytes(t, "Write of "+showChange(c), changes().bytesOf(c), string(rawChange(c)))
					if change.Right(c) != api.OK {
						changes().wantFailed(t, showChange(c), changes().bytesOf(c))
					}
				}
			}
		}
	}
}

func (s side[T]) testMany(t *testing.T) {
	rnd := rand.New(rand.NewSource(5))
	all := s.right()
	for range 300 {
		l := make([]T, rnd.Intn(6))
		for i := range l {
			l[i] = all[rnd.Intn(len(all))]
		}
		ok := octet.Read(s.bytesOf(l...), func(r *octet.Reader) {
			for i, x := range l {
				if got := s.take(r); s.show(got) != s.show(x) {
					t.Errorf("P5.3: %s, of many: %s, want %s", s.name, s.show(got), s.show(x))
				}
				if left := len(s.bytesOf(l[i+1:]...)); r.Left() != left {
					t.Errorf("P5.3: %s, of many: %d bytes are left, want %d", s.name, r.Left(), left)
				}
			}
		})
		if !ok {
			t.Errorf("P5.3: %s: %d that were written are not taken", s.name, len(l))
		}
	}
}

// TestManyInARow: what is taken is what was written once, and not a byte of the next one.
func TestManyInARow(t *testing.T) {
	changes().testMany(t)
	conds().testMany(t)
}

func (s side[T]) testNil(t *testing.T) {
	var zero T
	if got := s.take(nil); s.show(got) != s.show(zero) {
		t.Errorf("R1: %s of a nil Reader: %s", s.name, s.show(got))
	}
	for _, x := range append(s.right(), zero) {
		s.write(nil, x)
		var kept *octet.Reader
		octet.Read(s.bytesOf(x), func(r *octet.Reader) { kept = r })
		if got := s.take(kept); s.show(got) != s.show(zero) {
			t.Errorf("R1: %s of a Reader whose Read has ended: %s", s.name, s.show(got))
		}
	}
}

func TestNilObjects(t *testing.T) {
	changes().testNil(t)
	conds().testNil(t)
}
