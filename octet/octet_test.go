package octet_test

import (
	"bytes"
	"errors"
	"math"
	"math/rand"
	"slices"
	"testing"

	"wardmote/api"
	"wardmote/num"
	"wardmote/octet"
)

const oneNaN = 0x7ff8000000000001

// floatBits are bits of floats of each kind that num.Bits leaves as they are.
func floatBits() []uint64 {
	return []uint64{
		0x0000000000000000,
		0x8000000000000000, // -0
		0x0000000000000001, // the smallest subnormal one
		0x800fffffffffffff,
		0x0010000000000000, // the smallest normal one
		0x3ff8000000000000, // 1.5
		0xc059000000000000, // -100
		0x7fefffffffffffff, // the greatest one
		0xffefffffffffffff,
		0x7ff0000000000000, // +infinity
		0xfff0000000000000, // -infinity
		oneNaN,
	}
}

// otherNaNs are bits of NaNs that are not the one NaN's.
func otherNaNs() []uint64 {
	return []uint64{
		0x7ff8000000000000, 0x7ff8000000000002, 0x7ff0000000000001, 0x7fffffffffffffff,
		0xfff8000000000000, 0xfff8000000000001, 0xfff0000000000001, 0xffffffffffffffff,
	}
}

// eight are the bytes of a Long, written out one by one.
func eight(n uint64) []byte {
	return []byte{byte(n >> 56), byte(n >> 48), byte(n >> 40), byte(n >> 32), byte(n >> 24), byte(n >> 16), byte(n >> 8), byte(n)}
}

// four are the bytes of a Num.
func four(n uint32) []byte {
	return eight(uint64(n))[4:]
}

// written answers what write leaves in a Writer.
func written(write func(w *octet.Writer)) []byte {
	w := octet.New()
	write(w)
	return w.Done()
}

func wantBytes(t *testing.T, what string, got, want []byte) {
	t.Helper()
	if !bytes.Equal(got, want) {
		t.Errorf("%s: % x, want % x", what, got, want)
	}
}

// caught answers what f panics with, nil if it does not.
func caught(f func()) (p any) {
	defer func() { p = recover() }()
	f()
	return nil
}

func TestWriteNumbers(t *testing.T) {
	for _, b := range []byte{0, 1, 127, 128, 255} {
		wantBytes(t, "P2.1: Byte", written(func(w *octet.Writer) { w.Byte(b) }), []byte{b})
	}
	for _, c := range []struct {
		n    uint32
		want []byte
	}{
		{0, []byte{0, 0, 0, 0}},
		{1, []byte{0, 0, 0, 1}},
		{258, []byte{0, 0, 1, 2}}, // the chapter's run
		{0x01020304, []byte{1, 2, 3, 4}},
		{0xfffefdfc, []byte{255, 254, 253, 252}},
		{math.MaxUint32, []byte{255, 255, 255, 255}},
	} {
		wantBytes(t, "P2.1: Num", written(func(w *octet.Writer) { w.Num(c.n) }), c.want)
	}
	for _, c := range []struct {
		n    uint64
		want []byte
	}{
		{0, []byte{0, 0, 0, 0, 0, 0, 0, 0}},
		{258, []byte{0, 0, 0, 0, 0, 0, 1, 2}},
		{1 << 32, []byte{0, 0, 0, 1, 0, 0, 0, 0}},
		{0x0102030405060708, []byte{1, 2, 3, 4, 5, 6, 7, 8}},
		{0xfffefdfcfbfaf9f8, []byte{255, 254, 253, 252, 251, 250, 249, 248}},
		{math.MaxUint64, []byte{255, 255, 255, 255, 255, 255, 255, 255}},
	} {
		wantBytes(t, "P2.1: Long", written(func(w *octet.Writer) { w.Long(c.n) }), c.want)
	}
}

func TestWriteFloats(t *testing.T) {
	for _, bits := range floatBits() {
		got := written(func(w *octet.Writer) { w.Float(math.Float64frombits(bits)) })
		wantBytes(t, "P2.1: Float", got, eight(bits))
	}
	for _, bits := range otherNaNs() {
		got := written(func(w *octet.Writer) { w.Float(math.Float64frombits(bits)) })
		wantBytes(t, "P2.1: Float of another NaN", got, eight(oneNaN))
	}
}

func TestWriteTexts(t *testing.T) {
	for _, b := range [][]byte{nil, {}, {0}, []byte("ab"), {255, 0, 254}, make([]byte, 258), make([]byte, 70000), make([]byte, api.MaxBytes)} {
		w := octet.New()
		if !w.Text(b) {
			t.Errorf("P2.1: Text of %d bytes: false", len(b))
		}
		if got, want := w.Done(), append(four(uint32(len(b))), b...); !bytes.Equal(got, want) {
			t.Errorf("P2.1: Text of %d bytes", len(b))
		}
	}
	for _, long := range []int{api.MaxBytes + 1, 2 * api.MaxBytes} {
		w := octet.New()
		w.Byte(3)
		if w.Text(make([]byte, long)) {
			t.Errorf("P2.1: Text of %d bytes: true", long)
		}
		wantBytes(t, "P2.1: nothing is written of a Text that is too long", w.Done(), []byte{3})
		w.Byte(4)
		wantBytes(t, "R3: it goes on behind a Text that is too long", w.Done(), []byte{3, 4})
	}
}

func TestDone(t *testing.T) {
	w := octet.New()
	wantBytes(t, "P2.1: Done of nothing", w.Done(), nil)
	w.Num(258)
	first := w.Done()
	wantBytes(t, "P2.1: Done", first, []byte{0, 0, 1, 2})
	w.Byte(9)
	w.Text([]byte("x"))
	wantBytes(t, "P2.1: Done behind more", w.Done(), []byte{0, 0, 1, 2, 9, 0, 0, 0, 1, 'x'})
	wantBytes(t, "P2.1: Done once more", w.Done(), []byte{0, 0, 1, 2, 9, 0, 0, 0, 1, 'x'})
	wantBytes(t, "R2: an earlier Done", first, []byte{0, 0, 1, 2})

	other := octet.New()
	other.Byte(1)
	wantBytes(t, "P2.1: a Writer by itself", w.Done()[:4], []byte{0, 0, 1, 2})
	wantBytes(t, "P2.1: another Writer by itself", other.Done(), []byte{1})
}

// readCase is a Read and what it answers.
type readCase struct {
	what string
	b    []byte
	f    func(r *octet.Reader)
	want bool
}

func checkReads(t *testing.T, l []readCase) {
	t.Helper()
	for _, c := range l {
		if got := octet.Read(c.b, c.f); got != c.want {
			t.Errorf("P2.2: %s: %v", c.what, got)
		}
	}
}

func TestReadTakesAll(t *testing.T) {
	nothing := func(r *octet.Reader) {}
	one := func(r *octet.Reader) { r.Byte() }
	checkReads(t, []readCase{
		{"no bytes, no f", nil, nil, true},
		{"empty bytes, no f", []byte{}, nil, true},
		{"no bytes with room, no f", make([]byte, 0, 4), nil, true},
		{"a byte, no f", []byte{1}, nil, false},
		{"bytes, no f", []byte{1, 2, 3}, nil, false},
		{"nothing taken of nothing", nil, nothing, true},
		{"nothing taken of nothing with room", make([]byte, 0, 4), nothing, true},
		{"nothing taken of a byte", []byte{1}, nothing, false},
		{"one taken of one", []byte{1}, one, true},
		{"one taken of two", []byte{1, 2}, one, false},
		{"one taken of none", nil, one, false},
		{"one taken of none with room", make([]byte, 0, 4), one, false},
		{"a Num of one byte", []byte{1}, func(r *octet.Reader) { r.Num() }, false},
		{"a Num of four bytes", make([]byte, 4), func(r *octet.Reader) { r.Num() }, true},
		{"a Num of five bytes", make([]byte, 5), func(r *octet.Reader) { r.Num() }, false},
	})
}

func TestReadCallsOnce(t *testing.T) {
	for _, b := range [][]byte{nil, {1}, {1, 2}} {
		calls := 0
		octet.Read(b, func(r *octet.Reader) {
			calls++
			r.Byte()
		})
		if calls != 1 {
			t.Errorf("P2.2: f is called %d times", calls)
		}
	}
}

func TestReadNumbers(t *testing.T) {
	ok := octet.Read([]byte{200, 1, 2, 3, 4, 255, 254, 253, 252, 251, 250, 249, 248}, func(r *octet.Reader) {
		if x := r.Byte(); x != 200 {
			t.Errorf("P2.2: Byte: %d", x)
		}
		if x := r.Num(); x != 0x01020304 {
			t.Errorf("P2.2: Num: %x", x)
		}
		if x := r.Long(); x != 0xfffefdfcfbfaf9f8 {
			t.Errorf("P2.2: Long: %x", x)
		}
	})
	if !ok {
		t.Error("P2.2: numbers: false")
	}
}

// TestReadCutOff cuts one of each kind off at each place: with less than all f
// is left at the take that lacks bytes, with more Read is false at the end.
func TestReadCutOff(t *testing.T) {
	all := written(func(w *octet.Writer) {
		w.Byte(1)
		w.Num(2)
		w.Long(3)
		w.Float(4)
		w.Text([]byte("five5"))
		w.Text(nil)
	})
	takes := []func(r *octet.Reader){
		func(r *octet.Reader) { r.Byte() },
		func(r *octet.Reader) { r.Num() },
		func(r *octet.Reader) { r.Long() },
		func(r *octet.Reader) { r.Float() },
		func(r *octet.Reader) { r.Text(5) },
		func(r *octet.Reader) { r.Text(0) },
	}
	ends := []int{1, 5, 13, 21, 30, 34}
	for cut := range all {
		done, left := 0, 0
		// The bytes behind the cut stand in the spare room: they must not be read.
		ok := octet.Read(all[:cut], func(r *octet.Reader) {
			defer func() { left = r.Left() }()
			for _, take := range takes {
				take(r)
				done++
			}
		})
		whole := 0
		for whole < len(ends) && ends[whole] <= cut {
			whole++
		}
		if ok || done != whole {
			t.Errorf("P2.2: cut off at %d: %v, and %d were taken, not %d", cut, ok, done, whole)
		}
		from := 0
		if whole > 0 {
			from = ends[whole-1]
		}
		if left != cut-from {
			t.Errorf("R3: cut off at %d: %d are left, not %d", cut, left, cut-from)
		}
	}
	for _, more := range [][]byte{nil, {0}, {1, 2, 3, 4}} {
		ended := false
		ok := octet.Read(slices.Concat(all, more), func(r *octet.Reader) {
			for _, take := range takes {
				take(r)
			}
			ended = true
		})
		if !ended || ok != (len(more) == 0) {
			t.Errorf("P2.2: %d bytes too many: %v", len(more), ok)
		}
	}
}

func TestReadFloats(t *testing.T) {
	for _, bits := range floatBits() {
		var got float64
		ok := octet.Read(eight(bits), func(r *octet.Reader) { got = r.Float() })
		if !ok || math.Float64bits(got) != bits {
			t.Errorf("P2.2: Float of %x: %x, %v", bits, math.Float64bits(got), ok)
		}
	}
	for _, bits := range otherNaNs() {
		behind, left := false, 0
		ok := octet.Read(eight(bits), func(r *octet.Reader) {
			defer func() { left = r.Left() }()
			r.Float()
			behind = true
		})
		if ok || behind {
			t.Errorf("P2.2: Float of the bits %x, which are none of num.Bits: %v, gone on: %v", bits, ok, behind)
		}
		if left != 8 {
			t.Errorf("R3: a Float that is refused has taken bytes: %d are left", left)
		}
		if !octet.Read(eight(bits), func(r *octet.Reader) { r.Long() }) {
			t.Errorf("P2.2: Long of the bits %x", bits)
		}
	}
}

func TestReadTexts(t *testing.T) {
	abc := []byte("\x00\x00\x00\x03abc")
	longest := append(four(api.MaxBytes), make([]byte, api.MaxBytes)...)
	tooLong := append(four(api.MaxBytes+1), make([]byte, api.MaxBytes+1)...)
	for _, c := range []struct {
		what string
		b    []byte
		most int
		want bool
	}{
		{"at most", abc, 3, true},
		{"below most", abc, 4, true},
		{"above most", abc, 2, false},
		{"above most 0", abc, 0, false},
		{"no most", abc, -1, true},
		{"the lowest most", abc, math.MinInt, true},
		{"the highest most", abc, math.MaxInt, true},
		{"empty, most 0", four(0), 0, true},
		{"empty, no most", four(0), -1, true},
		{"bytes lack", abc[:6], 3, false},
		{"all bytes lack", abc[:4], 3, false},
		{"the length lacks", abc[:3], 3, false},
		{"the longest, most at it", longest, api.MaxBytes, true},
		{"the longest, most one below", longest, api.MaxBytes - 1, false},
		{"the longest, no most", longest, -1, true},
		{"the longest, a byte lacks", longest[:len(longest)-1], -1, false},
		{"above MaxBytes, no most", tooLong, -1, false},
		{"above MaxBytes, most above it", tooLong, math.MaxInt, false},
		{"above MaxBytes, most at it", tooLong, api.MaxBytes, false},
		{"a length of 2^31", append(four(1<<31), abc...), -1, false},
		{"the greatest length", append(four(math.MaxUint32), abc...), -1, false},
	} {
		behind, left := false, 0
		ok := octet.Read(c.b, func(r *octet.Reader) {
			defer func() { left = r.Left() }()
			if got := r.Text(c.most); !bytes.Equal(got, c.b[4:]) {
				t.Errorf("P2.2: Text, %s: %d other bytes", c.what, len(got))
			}
			behind = true
		})
		if ok != c.want || behind != c.want {
			t.Errorf("P2.2: Text, %s: %v, gone on: %v", c.what, ok, behind)
		}
		if !c.want && left != len(c.b) {
			t.Errorf("R3: a Text that is refused, %s: %d are left", c.what, left)
		}
	}
	octet.Read(slices.Concat(abc, abc), func(r *octet.Reader) {
		if r.Text(3); r.Left() != len(abc) {
			t.Errorf("P2.2: Left behind a Text: %d", r.Left())
		}
	})
}

func TestFail(t *testing.T) {
	for _, b := range [][]byte{nil, {1}, {1, 2}} {
		behind := false
		ok := octet.Read(b, func(r *octet.Reader) {
			for range b {
				r.Byte()
			}
			r.Fail()
			behind = true
		})
		if ok || behind {
			t.Errorf("P2.2: Fail behind %d bytes: %v, gone on: %v", len(b), ok, behind)
		}
	}
	if octet.Read([]byte{1, 2}, func(r *octet.Reader) { r.Fail() }) {
		t.Error("P2.2: Fail ahead of all")
	}
}

// TestFailIsCaughtByItself: f may catch what its Reader left it with; the Read is false all the same.
func TestFailIsCaughtByItself(t *testing.T) {
	for what, leave := range map[string]func(r *octet.Reader){
		"Fail":           func(r *octet.Reader) { r.Fail() },
		"a Num":          func(r *octet.Reader) { r.Num() },
		"a Text's bytes": func(r *octet.Reader) { r.Text(-1) },
	} {
		ok := octet.Read([]byte{7}, func(r *octet.Reader) {
			if caught(func() { leave(r) }) == nil {
				t.Errorf("P2.2: %s does not leave", what)
			}
			r.Byte()
		})
		if ok {
			t.Errorf("P2.2: %s that f caught: true", what)
		}
	}
}

func TestLeft(t *testing.T) {
	b := written(func(w *octet.Writer) {
		w.Byte(1)
		w.Num(2)
		w.Long(3)
		w.Float(4)
		w.Text([]byte("ab"))
	})
	var left []int
	octet.Read(b, func(r *octet.Reader) {
		tell := func() { left = append(left, r.Left()) }
		tell()
		tell()
		r.Byte()
		tell()
		r.Num()
		tell()
		r.Long()
		tell()
		r.Float()
		tell()
		r.Text(2)
		tell()
	})
	if want := []int{27, 27, 26, 22, 14, 6, 0}; !slices.Equal(left, want) {
		t.Errorf("P2.2: Left: %v, want %v", left, want)
	}
	octet.Read(make([]byte, 0, 8), func(r *octet.Reader) {
		if r.Left() != 0 {
			t.Errorf("R5: Left of nothing with room: %d", r.Left())
		}
	})
}

// ownPanic cannot be held against another of its kind, as a list cannot.
type ownPanic struct{ l []int }

func TestOwnPanics(t *testing.T) {
	its := errors.New("its own")
	for _, x := range []any{its, "text", 5, new(int), octet.New()} {
		if got := caught(func() { octet.Read(nil, func(r *octet.Reader) { panic(x) }) }); got != x {
			t.Errorf("P2.2: a panic with %v goes on as %v", x, got)
		}
		got := caught(func() {
			octet.Read([]byte{1}, func(r *octet.Reader) {
				r.Byte()
				panic(x)
			})
		})
		if got != x {
			t.Errorf("P2.2: a panic with %v behind all bytes goes on as %v", x, got)
		}
		got = caught(func() {
			octet.Read(nil, func(r *octet.Reader) {
				caught(r.Fail)
				panic(x)
			})
		})
		if got != x {
			t.Errorf("P2.2: a panic with %v behind a Fail that f caught goes on as %v", x, got)
		}
	}
	for _, x := range []any{[]int{1}, map[int]int{}, ownPanic{[]int{1}}, func() {}} {
		if caught(func() { octet.Read(nil, func(r *octet.Reader) { panic(x) }) }) == nil {
			t.Errorf("P2.2: a panic with %T is kept", x)
		}
	}
	var none []int
	if caught(func() { octet.Read(nil, func(r *octet.Reader) { none[0]++ }) }) == nil {
		t.Error("P2.2: a panic of the language is kept")
	}
	if caught(func() { octet.Read(nil, func(r *octet.Reader) { panic(nil) }) }) == nil {
		t.Error("P2.2: a panic with nil is kept")
	}
}

func TestReadWithinRead(t *testing.T) {
	ok := octet.Read([]byte{1, 2}, func(r *octet.Reader) {
		if octet.Read([]byte{r.Byte()}, func(in *octet.Reader) { in.Num() }) {
			t.Error("P2.2: the inner one lacks bytes, and is true")
		}
		if !octet.Read([]byte{r.Byte()}, func(in *octet.Reader) { in.Byte() }) {
			t.Error("P2.2: the inner one has all bytes, and is false")
		}
	})
	if !ok {
		t.Error("P2.2: the outer one is false")
	}
	for what, leave := range map[string]func(r *octet.Reader){
		"Fail":  func(r *octet.Reader) { r.Fail() },
		"a Num": func(r *octet.Reader) { r.Num() },
	} {
		behind := false
		ok := octet.Read(nil, func(out *octet.Reader) {
			octet.Read(nil, func(in *octet.Reader) { leave(out) })
			behind = true
		})
		if ok || behind {
			t.Errorf("P2.2: %s of the outer one's Reader within the inner one: %v, gone on: %v", what, ok, behind)
		}
	}
}

// TestReaderBehindItsRead: a Reader's calls panic within Read alone (R1), and its bytes are not kept (R2).
func TestReaderBehindItsRead(t *testing.T) {
	for what, f := range map[string]func(r *octet.Reader){
		"ended":    func(r *octet.Reader) {},
		"failed":   func(r *octet.Reader) { r.Fail() },
		"panicked": func(r *octet.Reader) { panic("its own") },
	} {
		var kept *octet.Reader
		caught(func() {
			octet.Read(bytes.Repeat([]byte{255}, 40), func(r *octet.Reader) {
				kept = r
				f(r)
			})
		})
		p := caught(func() {
			if kept.Left() != 0 || kept.Byte() != 0 || kept.Num() != 0 || kept.Long() != 0 || num.Bits(kept.Float()) != 0 || len(kept.Text(-1)) != 0 {
				t.Errorf("R2: a Reader whose Read %s has kept bytes", what)
			}
			kept.Fail()
		})
		if p != nil {
			t.Errorf("R1: a Reader whose Read %s panics: %v", what, p)
		}
	}
}

// step is one kind of writing, and the reading that belongs to it.
type step struct {
	write func(w *octet.Writer)
	read  func(r *octet.Reader) bool
}

func someStep(rnd *rand.Rand) step {
	n := rnd.Uint64() >> rnd.Intn(64)
	switch rnd.Intn(5) {
	case 0:
		return step{func(w *octet.Writer) { w.Byte(byte(n)) }, func(r *octet.Reader) bool { return r.Byte() == byte(n) }}
	case 1:
		return step{func(w *octet.Writer) { w.Num(uint32(n)) }, func(r *octet.Reader) bool { return r.Num() == uint32(n) }}
	case 2:
		return step{func(w *octet.Writer) { w.Long(n) }, func(r *octet.Reader) bool { return r.Long() == n }}
	case 3:
		all := append(floatBits(), otherNaNs()...)
		x := math.Float64frombits(append(all, n)[rnd.Intn(len(all)+1)])
		return step{func(w *octet.Writer) { w.Float(x) }, func(r *octet.Reader) bool {
			return math.Float64bits(r.Float()) == num.Bits(x)
		}}
	}
	b := make([]byte, n%20)
	rnd.Read(b)
	most := len(b) + rnd.Intn(3)
	return step{func(w *octet.Writer) { w.Text(b) }, func(r *octet.Reader) bool { return bytes.Equal(r.Text(most), b) }}
}

func TestWrittenIsRead(t *testing.T) {
	rnd := rand.New(rand.NewSource(2))
	for range 500 {
		steps := make([]step, rnd.Intn(12))
		w := octet.New()
		for i := range steps {
			steps[i] = someStep(rnd)
			steps[i].write(w)
		}
		ok := octet.Read(w.Done(), func(r *octet.Reader) {
			for i, s := range steps {
				if !s.read(r) {
					t.Errorf("P2.3: step %d of %d is read otherwise", i, len(steps))
				}
			}
		})
		if !ok {
			t.Errorf("P2.3: %d steps that were written are not read", len(steps))
		}
	}
	long := bytes.Repeat([]byte("0123456789abcdef"), api.MaxBytes/16)
	ok := octet.Read(written(func(w *octet.Writer) { w.Text(long) }), func(r *octet.Reader) {
		if !bytes.Equal(r.Text(-1), long) {
			t.Error("P2.3: the longest Text is read otherwise")
		}
	})
	if !ok {
		t.Error("P2.3: the longest Text is not read")
	}
}

func TestWriterKeepsNothingOfOthers(t *testing.T) {
	room := []byte("abcdefgh")
	w := octet.New()
	w.Text(room[:3:6])
	w.Byte(9)
	wantBytes(t, "R2: a Text that is handed in, and its room", room, []byte("abcdefgh"))
	room[0] = 'z'
	want := []byte{0, 0, 0, 3, 'a', 'b', 'c', 9}
	wantBytes(t, "R2: the Text is not kept", w.Done(), want)

	done := w.Done()
	done[0] = 7
	for i := range done[:cap(done)] {
		done[:cap(done)][i] = 7
	}
	wantBytes(t, "R2: Done is new memory", w.Done(), want)
	w.Num(0x01010101)
	wantBytes(t, "R2: its room too", done, []byte{7, 7, 7, 7, 7, 7, 7, 7})
	wantBytes(t, "R2: what is written behind it", w.Done(), append(slices.Clone(want), 1, 1, 1, 1))
}

func TestReaderChangesNothing(t *testing.T) {
	all := slices.Concat(four(2), []byte("ab"), four(0), four(2), []byte("cd"), []byte("room"))
	before := slices.Clone(all)
	var texts [][]byte
	ok := octet.Read(all[:len(all)-4], func(r *octet.Reader) {
		texts = append(texts, r.Text(2), r.Text(0), r.Text(2))
		for _, x := range texts {
			for i := range x[:cap(x)] {
				x[:cap(x)][i] = 'z'
			}
			_ = append(x, "zzzz"...)
		}
	})
	if !ok {
		t.Error("P2.2: Texts: false")
	}
	wantBytes(t, "R2: the bytes that are read, and their room", all, before)

	octet.Read(all[:len(all)-4], func(r *octet.Reader) { texts = [][]byte{r.Text(2), r.Text(0), r.Text(2)} })
	for i := range all {
		all[i] = 'q'
	}
	wantBytes(t, "R2: a Text by itself", texts[0], []byte("ab"))
	wantBytes(t, "R2: another Text by itself", texts[2], []byte("cd"))
}
