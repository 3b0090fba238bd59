package value_test

import (
	"bytes"
	"math"
	"math/rand"
	"slices"
	"testing"

	"wardmote/api"
	"wardmote/octet"
	"wardmote/value"
)

const oneNaN = 0x7ff8000000000001

var (
	negZero = math.Copysign(0, -1)
	posInf  = math.Inf(1)
	negInf  = math.Inf(-1)
	nan     = math.NaN()
)

func text(s string) api.Value { return api.Value{Kind: api.Text, B: []byte(s)} }

func number(x float64) api.Value { return api.Value{Kind: api.Number, N: x} }

func ofBits(b uint64) api.Value { return number(math.Float64frombits(b)) }

// otherKinds are neither Text nor Number; the last two are, if a byte is all that is read of them.
func otherKinds() []int {
	return []int{0, -1, -2, math.MinInt, 3, 255, math.MaxInt, 256 + api.Text, 256 + api.Number}
}

// otherNaNs are bits of NaNs that are not the one NaN's.
func otherNaNs() []uint64 {
	return []uint64{
		0x7ff8000000000000, 0x7ff8000000000002, 0x7ff0000000000001, 0x7fffffffffffffff,
		0xfff8000000000000, 0xfff8000000000001, 0xfff0000000000001, 0xffffffffffffffff,
	}
}

// numberBits are floats of each kind that Canon leaves as they are, rising as num.Order has them.
func numberBits() []uint64 {
	return []uint64{
		0xfff0000000000000, // -infinity
		0xffefffffffffffff, // the lowest finite one
		0xc059000000000000, // -100
		0xbff0000000000000, // -1
		0x8000000000000001, // the one next below -0
		0x8000000000000000, // -0
		0x0000000000000000,
		0x0000000000000001, // the smallest subnormal one
		0x0010000000000000, // the smallest normal one
		0x3ff0000000000000, // 1
		0x3ff0000000000001, // the next one above 1
		0x7fefffffffffffff, // the greatest finite one
		0x7ff0000000000000, // +infinity
		oneNaN,
	}
}

// someTexts rise by their bytes; those of which one begins the other are among them.
func someTexts() []string {
	return []string{"", "\x00", "\x00\x00", "\x01", "a", "a\x00", "ab", "abc", "abd", "b", "ba", "sixteen.bytes.ok", "sixteen.bytes.okk", "\x7f", "\x80", "\xc3\xa4", "\xff", "\xff\xff"}
}

// placed is a value, and where it stands in the order: those at one place are the same.
type placed struct {
	v     api.Value
	place int
}

// rising are values of each Kind, in order; what their Kind gives no meaning to differs.
func rising() []placed {
	var l []placed
	place := 0
	for _, k := range otherKinds() {
		for _, v := range []api.Value{{Kind: k}, {Kind: k, N: 5}, {Kind: k, B: []byte("ab")}, {Kind: k, B: []byte("b"), N: nan}} {
			l = append(l, placed{v, place})
		}
	}
	for _, s := range someTexts() {
		place++
		l = append(l, placed{text(s), place}, placed{api.Value{Kind: api.Text, B: []byte(s), N: float64(-place)}, place}, placed{api.Value{Kind: api.Text, B: []byte(s), N: nan}, place})
		if s == "" {
			l = append(l, placed{api.Value{Kind: api.Text}, place}, placed{api.Value{Kind: api.Text, B: []byte("zz")[:0]}, place})
		}
	}
	for _, b := range numberBits() {
		place++
		v := ofBits(b)
		l = append(l, placed{v, place})
		v.B = bytes.Repeat([]byte{byte(200 - place)}, 40)
		l = append(l, placed{v, place})
	}
	for _, b := range otherNaNs() {
		l = append(l, placed{ofBits(b), place}, placed{api.Value{Kind: api.Number, B: []byte("a"), N: math.Float64frombits(b)}, place})
	}
	return l
}

// want holds a value against another by Kind, bytes and bits: nothing is asked of value itself.
func want(t *testing.T, what string, got, want api.Value) {
	t.Helper()
	if got.Kind != want.Kind || !bytes.Equal(got.B, want.B) || math.Float64bits(got.N) != math.Float64bits(want.N) {
		t.Errorf("%s: {%d %q %x}, want {%d %q %x}", what, got.Kind, got.B, math.Float64bits(got.N), want.Kind, want.B, math.Float64bits(want.N))
	}
}

func wantBytes(t *testing.T, what string, got, want []byte) {
	t.Helper()
	if !bytes.Equal(got, want) {
		t.Errorf("%s: % x, want % x", what, got, want)
	}
}

// put answers what Put leaves in a Writer of these values.
func put(l ...api.Value) []byte {
	w := octet.New()
	for _, v := range l {
		value.Put(w, v)
	}
	return w.Done()
}

// get answers what Get takes of b, whether all of b was taken, and whether Get came to its end.
func get(b []byte) (v api.Value, ok, ended bool) {
	ok = octet.Read(b, func(r *octet.Reader) {
		v = value.Get(r)
		ended = true
	})
	return v, ok, ended
}

// bitsOf are the eight bytes of a float's bits, written out one by one.
func bitsOf(n uint64) []byte {
	return []byte{byte(n >> 56), byte(n >> 48), byte(n >> 40), byte(n >> 32), byte(n >> 24), byte(n >> 16), byte(n >> 8), byte(n)}
}

func TestRightTexts(t *testing.T) {
	if api.MaxText != 16 {
		t.Fatalf("MaxText: %d", api.MaxText)
	}
	for n, is := range map[int]bool{0: true, 1: true, 15: true, 16: true, 17: false, 32: false, 272: false, api.MaxBytes: false, api.MaxBytes + 1: false} {
		for _, x := range []float64{0, 5, nan} {
			if got := value.Right(api.Value{Kind: api.Text, B: make([]byte, n), N: x}); got != is {
				t.Errorf("P3.1: Right of a Text of %d bytes: %v", n, got)
			}
		}
	}
	if !value.Right(api.Value{Kind: api.Text}) {
		t.Error("P3.1: Right of a Text of nil")
	}
	for _, n := range []int{0, 16} {
		if !value.Right(api.Value{Kind: api.Text, B: make([]byte, n, 99)}) {
			t.Errorf("R5: Right of a Text of %d bytes, with room behind them", n)
		}
	}
	if !value.Right(text("\x00\xff\xc3\x80")) {
		t.Error("P3.1: Right of a Text of any bytes")
	}
}

func TestRightNumbers(t *testing.T) {
	for _, b := range append(numberBits(), otherNaNs()...) {
		v := ofBits(b)
		if !value.Right(v) {
			t.Errorf("P3.1: Right of the Number %x", b)
		}
		if v.B = make([]byte, 99); !value.Right(v) {
			t.Errorf("P3.1: Right of the Number %x that bears a B", b)
		}
	}
}

func TestRightOthers(t *testing.T) {
	for _, k := range otherKinds() {
		for _, v := range []api.Value{{Kind: k}, {Kind: k, B: []byte("a")}, {Kind: k, N: 1}, {Kind: k, B: make([]byte, 99), N: nan}} {
			if value.Right(v) {
				t.Errorf("P3.1: Right of Kind %d", k)
			}
		}
	}
}

func TestCanonTexts(t *testing.T) {
	for _, s := range someTexts() {
		for _, x := range []float64{0, 5, negZero, posInf, nan} {
			want(t, "P3.1: Canon of a Text", value.Canon(api.Value{Kind: api.Text, B: []byte(s), N: x}), text(s))
		}
	}
	want(t, "P3.1: Canon of a Text of nil", value.Canon(api.Value{Kind: api.Text}), text(""))
	for _, n := range []int{17, 300, api.MaxBytes + 1} {
		long := text(string(bytes.Repeat([]byte("x"), n)))
		if got := value.Canon(long); got.Kind != api.Text || !bytes.Equal(got.B, long.B) {
			t.Errorf("P3.1: Canon of a Text of %d bytes, which is not Right: Kind %d, %d bytes", n, got.Kind, len(got.B))
		}
	}
}

func TestCanonNumbers(t *testing.T) {
	for _, b := range numberBits() {
		for _, bears := range [][]byte{nil, {}, []byte("a"), make([]byte, 99)} {
			got := value.Canon(api.Value{Kind: api.Number, B: bears, N: math.Float64frombits(b)})
			want(t, "P3.1: Canon of a Number", got, ofBits(b))
		}
	}
	for _, b := range otherNaNs() {
		got := value.Canon(api.Value{Kind: api.Number, B: []byte("a"), N: math.Float64frombits(b)})
		want(t, "P3.1: Canon of a NaN of other bits", got, ofBits(oneNaN))
	}
}

func TestCanonOthers(t *testing.T) {
	for _, k := range otherKinds() {
		for _, v := range []api.Value{{Kind: k}, {Kind: k, B: []byte("a")}, {Kind: k, N: 5}, {Kind: k, B: []byte("a"), N: negZero}} {
			want(t, "P3.1: Canon of another Kind", value.Canon(v), api.Value{})
		}
	}
}

func sign(n int) int {
	switch {
	case n < 0:
		return -1
	case n > 0:
		return 1
	}
	return 0
}

func TestOrderAndSame(t *testing.T) {
	l := rising()
	for _, a := range l {
		for _, b := range l {
			is := sign(a.place - b.place)
			if got := value.Order(a.v, b.v); got != is {
				t.Errorf("P3.1: Order(%v, %v): %d, want %d", a.v, b.v, got, is)
			}
			if got := value.Same(a.v, b.v); got != (is == 0) {
				t.Errorf("P3.1: Same(%v, %v): %v", a.v, b.v, got)
			}
		}
	}
}

// TestOrderByNames says the edges of the order one by one.
func TestOrderByNames(t *testing.T) {
	for _, c := range []struct {
		what string
		a, b api.Value
		want int
	}{
		{"zero and an empty Text", api.Value{}, text(""), -1},
		{"a Kind above the last one and a Number", api.Value{Kind: 3, N: 9}, number(negInf), -1},
		{"a Kind below 0 and one above the last", api.Value{Kind: -1, N: 1}, api.Value{Kind: 3, N: 2}, 0},
		{"a Text and the lowest Number", text("\xff\xff"), number(negInf), -1},
		{"a Text and one that it begins", text("a"), text("a\x00"), -1},
		{"a long Text and a short one", text("aaaa"), text("b"), -1},
		{"bytes above 127", text("\x7f"), text("\x80"), -1},
		{"a Text of nil and an empty one", api.Value{Kind: api.Text}, text(""), 0},
		{"-0 and 0", number(negZero), number(0), -1},
		{"+infinity and NaN", number(posInf), number(nan), -1},
		{"two NaNs of other bits", ofBits(0x7ff0000000000001), ofBits(0xffffffffffffffff), 0},
		{"a Text of a digit and its Number", text("1"), number(1), -1},
	} {
		if got := value.Order(c.a, c.b); got != c.want {
			t.Errorf("P3.1: Order, %s: %d", c.what, got)
		}
		if got := value.Order(c.b, c.a); got != -c.want {
			t.Errorf("P3.1: Order, the other way round, %s: %d", c.what, got)
		}
		if value.Same(c.a, c.b) != (c.want == 0) || value.Same(c.b, c.a) != (c.want == 0) {
			t.Errorf("P3.1: Same, %s", c.what)
		}
	}
}

func TestOrderReadsNoRoom(t *testing.T) {
	a, b := []byte("abc"), []byte("abd")
	x, y := api.Value{Kind: api.Text, B: a[:2]}, api.Value{Kind: api.Text, B: b[:2]}
	if value.Order(x, y) != 0 || !value.Same(x, y) {
		t.Error("R5: Order reads the room behind a Text")
	}
}

func TestPlusNumbers(t *testing.T) {
	big := math.MaxFloat64
	for _, c := range []struct{ a, b, want float64 }{
		{1, 2, 3},
		{0.1, 0.7, 0.7999999999999999}, // the nearest float of the exact sum of both floats
		{1e16, 1, 1e16},
		{1, -1, 0},
		{0, 0, 0},
		{negZero, negZero, negZero},
		{negZero, 0, 0},
		{0, negZero, 0},
		{negZero, 5, 5},
		{posInf, 1, posInf},
		{negInf, negInf, negInf},
		{posInf, negInf, nan},
		{negInf, posInf, nan},
		{1, nan, nan}, // the chapter's run
		{nan, 1, nan},
		{nan, nan, nan},
		{nan, posInf, nan},
		{big, big, posInf},
		{-big, -big, negInf},
	} {
		is := number(c.want)
		if math.IsNaN(c.want) {
			is = ofBits(oneNaN)
		}
		for _, bears := range [][]byte{nil, []byte("ab")} {
			got, why := value.Plus(api.Value{Kind: api.Number, B: bears, N: c.a}, api.Value{Kind: api.Number, B: bears, N: c.b})
			want(t, "P3.1: Plus of Numbers", got, is)
			if why != api.OK {
				t.Errorf("P3.1: Plus(%v, %v): %v", c.a, c.b, why)
			}
		}
	}
}

func TestPlusOfOtherNaNs(t *testing.T) {
	for _, b := range otherNaNs() {
		for _, c := range [][2]api.Value{{ofBits(b), number(1)}, {number(1), ofBits(b)}, {ofBits(b), ofBits(b)}} {
			got, why := value.Plus(c[0], c[1])
			if want(t, "P3.1: Plus of a NaN of other bits", got, ofBits(oneNaN)); why != api.OK {
				t.Errorf("P3.1: Plus of the NaN %x: %v", b, why)
			}
		}
	}
}

func TestPlusRefuses(t *testing.T) {
	refused := []api.Value{text("1"), text(""), {Kind: api.Text, N: 1}, text("seventeen.bytes.l")}
	for _, k := range otherKinds() {
		refused = append(refused, api.Value{Kind: k, N: 1})
	}
	for _, v := range refused {
		for _, x := range []api.Value{number(1), number(nan), number(negZero), v, text("2"), {}} {
			for _, c := range [][2]api.Value{{v, x}, {x, v}} {
				got, why := value.Plus(c[0], c[1])
				if want(t, "R3: Plus, beside ErrKind", got, api.Value{}); why != api.ErrKind {
					t.Errorf("P3.1: Plus(%v, %v): %v", c[0], c[1], why)
				}
			}
		}
	}
}

func TestPut(t *testing.T) {
	wantBytes(t, "P3.2: Put of a Text", put(text("ab")), []byte{1, 0, 0, 0, 2, 'a', 'b'})
	wantBytes(t, "P3.2: Put of an empty Text", put(text("")), []byte{1, 0, 0, 0, 0})
	wantBytes(t, "P3.2: Put of a Text of nil", put(api.Value{Kind: api.Text}), []byte{1, 0, 0, 0, 0})
	wantBytes(t, "P3.2: Put of a Text that bears an N", put(api.Value{Kind: api.Text, B: []byte{255}, N: 5}), []byte{1, 0, 0, 0, 1, 255})
	wantBytes(t, "P3.2: Put of the longest Text", put(text("sixteen.bytes.ok")), []byte("\x01\x00\x00\x00\x10sixteen.bytes.ok"))
	wantBytes(t, "P3.2: Put of a Text that is not Right", put(text("seventeen.bytes.l")), []byte("\x01\x00\x00\x00\x11seventeen.bytes.l"))
	wantBytes(t, "P3.2: Put of two", put(text("a"), number(2)), slices.Concat([]byte{1, 0, 0, 0, 1, 'a', 2, 0x40}, make([]byte, 7)))
	for _, b := range numberBits() {
		wantBytes(t, "P3.2: Put of a Number", put(ofBits(b)), append([]byte{2}, bitsOf(b)...))
		bears := api.Value{Kind: api.Number, B: []byte("ab"), N: math.Float64frombits(b)}
		wantBytes(t, "P3.2: Put of a Number that bears a B", put(bears), append([]byte{2}, bitsOf(b)...))
	}
	for _, b := range otherNaNs() {
		wantBytes(t, "P3.2: Put of a NaN of other bits", put(ofBits(b)), append([]byte{2}, bitsOf(oneNaN)...))
	}
	for _, k := range otherKinds() {
		wantBytes(t, "P3.2: Put of another Kind", put(api.Value{Kind: k, B: []byte("ab"), N: 5}), []byte{0})
	}
}

// TestPutTooLong: octet writes nothing of a Text above MaxBytes, so the Byte stands alone, and Get refuses it.
func TestPutTooLong(t *testing.T) {
	b := put(api.Value{Kind: api.Text, B: make([]byte, api.MaxBytes+1)})
	wantBytes(t, "P3.2: Put of a Text above MaxBytes", b, []byte{1})
	if _, ok, ended := get(b); ok || ended {
		t.Error("P3.2: Get of a Text above MaxBytes that was put")
	}
}

func TestGetOfPut(t *testing.T) {
	for _, s := range someTexts() {
		if len(s) <= api.MaxText {
			v, ok, _ := get(put(api.Value{Kind: api.Text, B: []byte(s), N: 5}))
			if want(t, "P3.2: Get of a Text", v, text(s)); !ok {
				t.Errorf("P3.2: Get of the Text %q: false", s)
			}
		}
	}
	for _, b := range append(numberBits(), otherNaNs()...) {
		v, ok, _ := get(put(api.Value{Kind: api.Number, B: []byte("ab"), N: math.Float64frombits(b)}))
		if math.IsNaN(math.Float64frombits(b)) {
			b = oneNaN
		}
		if want(t, "P3.2: Get of a Number", v, ofBits(b)); !ok {
			t.Errorf("P3.2: Get of the Number %x: false", b)
		}
	}
	for _, k := range otherKinds() {
		if _, ok, ended := get(put(api.Value{Kind: k, B: []byte("ab"), N: 5})); ok || ended {
			t.Errorf("P3.2: Get of Kind %d: %v, gone on: %v", k, ok, ended)
		}
	}
}

func TestGetOfLongTexts(t *testing.T) {
	for _, n := range []int{17, 18, 272, 65552, api.MaxBytes} {
		b := put(api.Value{Kind: api.Text, B: make([]byte, n)})
		if len(b) != n+5 {
			t.Fatalf("P3.2: Put of a Text of %d bytes: %d bytes", n, len(b))
		}
		if _, ok, ended := get(b); ok || ended {
			t.Errorf("P3.2: Get of a Text of %d bytes: %v, gone on: %v", n, ok, ended)
		}
	}
	for _, s := range []string{"\x01\xff\xff\xff\xff", "\x01\x80\x00\x00\x00a", "\x01\x01\x00\x00\x02ab"} {
		if _, ok, ended := get([]byte(s)); ok || ended {
			t.Errorf("P3.2: Get of %q: %v, gone on: %v", s, ok, ended)
		}
	}
}

func TestGetCutOff(t *testing.T) {
	for _, v := range []api.Value{text("ab"), text(""), text("sixteen.bytes.ok"), number(1), number(nan)} {
		all := put(v)
		for cut := range all {
			// The bytes behind the cut stand in the spare room: they must not be read.
			if _, ok, ended := get(all[:cut]); ok || ended {
				t.Errorf("P3.2: Get of % x cut off at %d: %v, gone on: %v", all, cut, ok, ended)
			}
		}
		got, ok, ended := get(append(slices.Clone(all), 0))
		if want(t, "P3.2: Get ahead of a byte too many", got, asPut(v)); ok || !ended {
			t.Errorf("P3.2: Get of % x and a byte too many: %v, gone on: %v", all, ok, ended)
		}
	}
}

// asPut is v with the one NaN's bits, if it is a NaN.
func asPut(v api.Value) api.Value {
	if math.IsNaN(v.N) {
		return ofBits(oneNaN)
	}
	return v
}

func TestGetOfOtherBytes(t *testing.T) {
	tails := [][]byte{nil, {0, 0, 0, 0}, {0, 0, 0, 2, 'a', 'b'}, bitsOf(0x3ff0000000000000)}
	for k := range 256 {
		if k == api.Text || k == api.Number {
			continue
		}
		for _, tail := range tails {
			if _, ok, ended := get(append([]byte{byte(k)}, tail...)); ok || ended {
				t.Errorf("P3.2: Get of the Byte %d and %d more: %v, gone on: %v", k, len(tail), ok, ended)
			}
		}
	}
	for _, b := range otherNaNs() {
		if _, ok, ended := get(append([]byte{2}, bitsOf(b)...)); ok || ended {
			t.Errorf("P3.2: Get of the NaN %x: %v, gone on: %v", b, ok, ended)
		}
	}
}

// someValue is one that is Right, of any kind.
func someValue(rnd *rand.Rand) api.Value {
	if rnd.Intn(2) == 0 {
		b := make([]byte, rnd.Intn(api.MaxText+1))
		rnd.Read(b)
		return api.Value{Kind: api.Text, B: b}
	}
	if rnd.Intn(2) == 0 {
		return ofBits(numberBits()[rnd.Intn(len(numberBits()))])
	}
	return number(rnd.NormFloat64())
}

// TestManyInARow: Get takes what one Put wrote, and not a byte of the next one.
func TestManyInARow(t *testing.T) {
	rnd := rand.New(rand.NewSource(3))
	for range 300 {
		l := make([]api.Value, rnd.Intn(8))
		for i := range l {
			l[i] = someValue(rnd)
		}
		ok := octet.Read(put(l...), func(r *octet.Reader) {
			for i, v := range l {
				want(t, "P3.2: Get of many", value.Get(r), v)
				if left := len(put(l[i+1:]...)); r.Left() != left {
					t.Errorf("P3.2: Get of many: %d bytes are left, want %d", r.Left(), left)
				}
			}
		})
		if !ok {
			t.Errorf("P3.2: %d values that were put are not got", len(l))
		}
	}
}

func TestNilObjects(t *testing.T) {
	for _, v := range []api.Value{{}, text("a"), number(1)} {
		value.Put(nil, v)
	}
	want(t, "R1: Get of a nil Reader", value.Get(nil), api.Value{})
}

func TestGetBehindItsRead(t *testing.T) {
	var kept *octet.Reader
	octet.Read(put(text("a")), func(r *octet.Reader) { kept = r })
	want(t, "R1: Get of a Reader whose Read has ended", value.Get(kept), api.Value{})
}

// overwrite fills b and the room behind it.
func overwrite(b []byte) {
	all := b[:cap(b)]
	for i := range all {
		all[i] = 'z'
	}
}

func TestNothingIsChanged(t *testing.T) {
	for _, k := range []int{api.Text, api.Number, 0, 9} {
		room := []byte("abcdefghijkl")
		v := api.Value{Kind: k, B: room[:4:8], N: math.Float64frombits(0xfff0000000000009)}
		was := v
		c := value.Canon(v)
		value.Right(v)
		value.Same(v, c)
		value.Order(v, c)
		value.Plus(v, v)
		put(v)
		overwrite(c.B)
		_ = append(c.B, "zzzz"...)
		wantBytes(t, "R2: a value's bytes and their room", room, []byte("abcdefghijkl"))
		want(t, "R2: a value that is handed in", v, was)
	}
}

func TestNothingIsKept(t *testing.T) {
	room := []byte("abcdefgh")
	w := octet.New()
	c := value.Canon(api.Value{Kind: api.Text, B: room[:3]})
	value.Put(w, api.Value{Kind: api.Text, B: room[:3]})
	overwrite(room)
	want(t, "R2: what Canon answers is new memory", c, text("abc"))
	wantBytes(t, "R2: what Put wrote", w.Done(), []byte{1, 0, 0, 0, 3, 'a', 'b', 'c'})

	room = []byte("abcdefgh")
	empty := value.Canon(api.Value{Kind: api.Text, B: room[:0]})
	_ = append(empty.B, 'z')
	overwrite(empty.B)
	wantBytes(t, "R2: Canon of an empty Text leaves the room behind it", room, []byte("abcdefgh"))
}

func TestGetAnswersNewMemory(t *testing.T) {
	all := append(put(text("ab"), text(""), text("cd")), "room"...)
	was := slices.Clone(all)
	take := func() (l []api.Value) {
		ok := octet.Read(all[:len(all)-4], func(r *octet.Reader) {
			l = []api.Value{value.Get(r), value.Get(r), value.Get(r)}
		})
		if !ok {
			t.Error("P3.2: Get of three Texts: false")
		}
		return l
	}
	for i, v := range take() {
		l := take()
		overwrite(l[i].B)
		_ = append(l[i].B, "zzzz"...)
		wantBytes(t, "R2: the bytes that are read, and their room", all, was)
		for k := range l {
			if k != i {
				want(t, "R2: two Texts share memory", l[k], []api.Value{text("ab"), text(""), text("cd")}[k])
			}
		}
		want(t, "R2: two Reads share memory", v, []api.Value{text("ab"), text(""), text("cd")}[i])
	}
	l := take()
	overwrite(all)
	want(t, "R2: a Text by itself", l[0], text("ab"))
	want(t, "R2: another Text by itself", l[2], text("cd"))
}
