package num_test

import (
	"math"
	"math/rand"
	"slices"
	"testing"

	"wardmote/num"
)

const oneNaN = 0x7ff8000000000001

var (
	negZero = math.Copysign(0, -1)
	posInf  = math.Inf(1)
	negInf  = math.Inf(-1)
)

// kind is a float by its bits, where it stands in the order, and its class.
type kind struct {
	bits  uint64
	place int
	class int
}

func (k kind) float() float64 { return math.Float64frombits(k.bits) }

// canon is written out from the document's words, not asked of num.
func (k kind) canon() uint64 {
	if k.class == num.NotNumber {
		return oneNaN
	}
	return k.bits
}

// kinds are floats of all six classes, NaNs of both signs, quiet and
// signalling ones, by rising places; those at one place are the same.
func kinds() []kind {
	return []kind{
		{0xfff0000000000000, 0, num.NegInf},
		{0xffefffffffffffff, 1, num.Finite}, // the lowest finite one
		{0xbff8000000000000, 2, num.Finite}, // -1.5
		{0xbff0000000000000, 3, num.Finite}, // -1
		{0x8010000000000000, 4, num.Finite}, // the smallest normal one below 0
		{0x800fffffffffffff, 5, num.Finite}, // subnormal
		{0x8000000000000001, 6, num.Finite},
		{0x8000000000000000, 7, num.NegZero},
		{0x0000000000000000, 8, num.Zero},
		{0x0000000000000001, 9, num.Finite},
		{0x000fffffffffffff, 10, num.Finite},
		{0x0010000000000000, 11, num.Finite},
		{0x3ff0000000000000, 12, num.Finite},
		{0x3ff0000000000001, 13, num.Finite}, // the next one above 1
		{0x7fefffffffffffff, 14, num.Finite},
		{0x7ff0000000000000, 15, num.PosInf},
		{oneNaN, 16, num.NotNumber},
		{0x7ff8000000000000, 16, num.NotNumber},
		{0x7ff0000000000001, 16, num.NotNumber},
		{0x7fffffffffffffff, 16, num.NotNumber},
		{0xfff8000000000001, 16, num.NotNumber},
		{0xfff8000000000000, 16, num.NotNumber},
		{0xfff0000000000001, 16, num.NotNumber},
		{0xffffffffffffffff, 16, num.NotNumber},
	}
}

func sign(n int) int {
	switch {
	case n < 0:
		return -1
	case n > 0:
		return 1
	}
	return 0
}

// someBits are bits of any kind; the exponents of NaNs and infinities and the
// fractions of zeros come up more often than by chance.
func someBits(r *rand.Rand) uint64 {
	b := r.Uint64()
	switch r.Intn(4) {
	case 0:
		b |= 0x7ff0000000000000
	case 1:
		b &^= 0x000fffffffffffff
	case 2:
		b &= 0x8000000000000003
	}
	return b
}

func TestClassNumbers(t *testing.T) {
	got := []int{num.Finite, num.Zero, num.NegZero, num.PosInf, num.NegInf, num.NotNumber}
	if !slices.Equal(got, []int{1, 2, 3, 4, 5, 6}) {
		t.Errorf("P1.1: the classes' numbers: %v", got)
	}
}

func TestKinds(t *testing.T) {
	for _, k := range kinds() {
		if got := math.Float64bits(num.Canon(k.float())); got != k.canon() {
			t.Errorf("P1.1: Canon of %x: %x", k.bits, got)
		}
		if got := num.Bits(k.float()); got != k.canon() {
			t.Errorf("P1.1: Bits of %x: %x", k.bits, got)
		}
		if got := math.Float64bits(num.From(k.bits)); got != k.canon() {
			t.Errorf("P1.1: From(%x): %x", k.bits, got)
		}
		if got := num.Class(k.float()); got != k.class {
			t.Errorf("P1.1: Class of %x: %d", k.bits, got)
		}
	}
}

func TestKindsOfAnyBits(t *testing.T) {
	r := rand.New(rand.NewSource(1))
	for range 20000 {
		b := someBits(r)
		want := b
		nan := b&^(1<<63) > 0x7ff0000000000000
		if nan {
			want = oneNaN
		}
		x := math.Float64frombits(b)
		if math.Float64bits(num.Canon(x)) != want || num.Bits(x) != want || math.Float64bits(num.From(b)) != want {
			t.Fatalf("P1.1: bits %x: Canon %x, Bits %x, From %x", b, math.Float64bits(num.Canon(x)), num.Bits(x), math.Float64bits(num.From(b)))
		}
		if (num.Class(x) == num.NotNumber) != nan {
			t.Fatalf("P1.1: bits %x: Class %d", b, num.Class(x))
		}
	}
}

func TestOrderOfEachPair(t *testing.T) {
	for _, a := range kinds() {
		for _, b := range kinds() {
			want := sign(a.place - b.place)
			if got := num.Order(a.float(), b.float()); got != want {
				t.Errorf("P1.2: Order of %x and %x: %d", a.bits, b.bits, got)
			}
			if got := num.Same(a.float(), b.float()); got != (want == 0) {
				t.Errorf("P1.2: Same of %x and %x: %v", a.bits, b.bits, got)
			}
		}
	}
}

func TestOrderRuns(t *testing.T) {
	if got := num.Order(negZero, 0); got != -1 {
		t.Errorf("P1.2: Order(-0, 0): %d", got)
	}
	if got := num.Order(posInf, math.NaN()); got != -1 {
		t.Errorf("P1.2: Order(+Inf, NaN): %d", got)
	}
}

// TestOrderOfNumbers holds Order against Go's own < where that one tells.
func TestOrderOfNumbers(t *testing.T) {
	r := rand.New(rand.NewSource(2))
	for range 20000 {
		a, b := math.Float64frombits(someBits(r)), math.Float64frombits(someBits(r))
		got := num.Order(a, b)
		if a < b && got != -1 || a > b && got != 1 {
			t.Fatalf("P1.2: Order(%v, %v): %d", a, b, got)
		}
	}
}

func TestLeastAndMost(t *testing.T) {
	all := kinds()
	r := rand.New(rand.NewSource(3))
	for range 5000 {
		var l []float64
		low, high := len(all)-1, 0
		for range 1 + r.Intn(6) {
			k := r.Intn(len(all))
			l = append(l, all[k].float())
			low, high = min(low, k), max(high, k)
		}
		if got, ok := num.Least(l...); !ok || math.Float64bits(got) != all[low].canon() {
			t.Fatalf("P1.2: Least of %v: %v, %v", l, got, ok)
		}
		if got, ok := num.Most(l...); !ok || math.Float64bits(got) != all[high].canon() {
			t.Fatalf("P1.2: Most of %v: %v, %v", l, got, ok)
		}
	}
}

func TestLeastAndMostOfOne(t *testing.T) {
	for _, k := range kinds() {
		if got, ok := num.Least(k.float()); !ok || math.Float64bits(got) != k.canon() {
			t.Errorf("P1.2: Least of %x: %x, %v", k.bits, math.Float64bits(got), ok)
		}
		if got, ok := num.Most(k.float()); !ok || math.Float64bits(got) != k.canon() {
			t.Errorf("P1.2: Most of %x: %x, %v", k.bits, math.Float64bits(got), ok)
		}
	}
}

func TestLeastAndMostOfNone(t *testing.T) {
	for _, l := range [][]float64{nil, {}, make([]float64, 0, 4)} {
		if got, ok := num.Least(l...); math.Float64bits(got) != 0 || ok {
			t.Errorf("P1.2: Least of none: %v, %v", got, ok)
		}
		if got, ok := num.Most(l...); math.Float64bits(got) != 0 || ok {
			t.Errorf("P1.2: Most of none: %v, %v", got, ok)
		}
	}
}

func TestSum(t *testing.T) {
	nan, odd, most := math.NaN(), math.Float64frombits(0xfff0000000000009), math.MaxFloat64
	tiny := math.SmallestNonzeroFloat64
	tenth, fifth := 0.1, 0.2
	for _, c := range []struct{ a, b, want float64 }{
		{1, 2, 3}, {1.5, -4, -2.5}, {tenth, fifth, 0.30000000000000004},
		{1e16, 1, 1e16}, {1e16, 3, 1e16 + 4}, {tiny, tiny, 2 * tiny}, {tiny, -tiny, 0},
		{0, 0, 0}, {negZero, negZero, negZero}, {negZero, 0, 0}, {0, negZero, 0},
		{1, -1, 0}, {-1, 1, 0}, {negZero, 5, 5}, {-5, negZero, -5},
		{posInf, posInf, posInf}, {negInf, negInf, negInf}, {posInf, negInf, nan}, {negInf, posInf, nan},
		{posInf, -most, posInf}, {negInf, most, negInf}, {0, negInf, negInf},
		{most, most, posInf}, {-most, -most, negInf}, {most, -most, 0}, {most, 1, most},
		{most, 0x1p970, posInf}, {most, 0x1p969, most},
		{nan, 1, nan}, {1, nan, nan}, {posInf, nan, nan}, {odd, 1, nan}, {1, odd, nan}, {odd, odd, nan}, {nan, odd, nan},
	} {
		want := math.Float64bits(c.want)
		if math.IsNaN(c.want) {
			want = oneNaN
		}
		if got := math.Float64bits(num.Sum(c.a, c.b)); got != want {
			t.Errorf("P1.3: Sum(%v, %v): %x, not %x", c.a, c.b, got, want)
		}
	}
}

// TestSumOfAProduct tells on machines that can multiply and add in one go alone.
func TestSumOfAProduct(t *testing.T) {
	x := 1 + 0x1p-30
	for _, y := range []float64{x, 1 + 0x1p-29} {
		product := x * y
		if got := num.Sum(x*y, -product); got != 0 {
			t.Errorf("P1.3: Sum of a product and its opposite: %v", got)
		}
		if got := num.Sum(-product, x*y); got != 0 {
			t.Errorf("P1.3: Sum of an opposite and its product: %v", got)
		}
	}
}

func TestTotal(t *testing.T) {
	nan, odd := math.NaN(), math.Float64frombits(0xfff0000000000009)
	for _, c := range []struct {
		l    []float64
		want float64
	}{
		{nil, 0}, {[]float64{}, 0}, {make([]float64, 0, 4), 0},
		{[]float64{7}, 7}, {[]float64{negZero}, negZero}, {[]float64{negInf}, negInf},
		{[]float64{nan}, nan}, {[]float64{odd}, nan},
		{[]float64{2, 3, 4}, 9}, {[]float64{negZero, negZero, negZero}, negZero}, {[]float64{negZero, 0, negZero}, 0},
		{[]float64{1e16, 1, -1e16}, 0}, {[]float64{1e16, -1e16, 1}, 1}, {[]float64{1, 1e16, -1e16}, 0}, {[]float64{1, 1, 1e16, -1e16}, 2},
		{[]float64{math.MaxFloat64, math.MaxFloat64, -math.MaxFloat64}, posInf},
		{[]float64{math.MaxFloat64, -math.MaxFloat64, math.MaxFloat64}, math.MaxFloat64},
		{[]float64{posInf, 5, negInf, 3}, nan}, {[]float64{posInf, 5, posInf}, posInf}, {[]float64{1, odd, 3}, nan},
	} {
		want := math.Float64bits(c.want)
		if math.IsNaN(c.want) {
			want = oneNaN
		}
		if got := math.Float64bits(num.Total(c.l...)); got != want {
			t.Errorf("P1.3: Total of %v: %x, not %x", c.l, got, want)
		}
	}
}

func TestTotalIsSumsFromTheLeft(t *testing.T) {
	r := rand.New(rand.NewSource(4))
	for range 2000 {
		var l []float64
		for range 1 + r.Intn(6) {
			l = append(l, math.Ldexp(r.NormFloat64(), r.Intn(80)))
		}
		want := l[0]
		for _, x := range l[1:] {
			want = num.Sum(want, x)
		}
		if got := num.Total(l...); math.Float64bits(got) != math.Float64bits(want) {
			t.Fatalf("P1.3: Total of %v: %v, not %v", l, got, want)
		}
	}
}

func TestExamples(t *testing.T) {
	if got := num.Sum(posInf, negInf); math.Float64bits(got) != oneNaN {
		t.Errorf("P1.3: Sum(+Inf, -Inf): %v", got)
	}
	if got := num.Sum(negZero, negZero); got != 0 || !math.Signbit(got) {
		t.Errorf("P1.3: Sum(-0, -0): %v", got)
	}
}

func TestAnOrder(t *testing.T) {
	r := rand.New(rand.NewSource(5))
	all := kinds()
	one := func() float64 {
		if r.Intn(2) == 0 {
			return all[r.Intn(len(all))].float()
		}
		return math.Float64frombits(someBits(r))
	}
	for range 20000 {
		a, b, c := one(), one(), one()
		if num.Order(a, a) != 0 {
			t.Fatalf("P1.4: %v is not the same as itself", a)
		}
		if num.Order(a, b) != -num.Order(b, a) {
			t.Fatalf("P1.4: Order(%v, %v): %d, the other way round %d", a, b, num.Order(a, b), num.Order(b, a))
		}
		if num.Order(a, b) <= 0 && num.Order(b, c) <= 0 && num.Order(a, c) > 0 {
			t.Fatalf("P1.4: %v, %v, %v do not rise", a, b, c)
		}
		if num.Same(a, b) != (num.Bits(a) == num.Bits(b)) {
			t.Fatalf("P1.4: Same(%v, %v): %v, Bits %x, %x", a, b, num.Same(a, b), num.Bits(a), num.Bits(b))
		}
	}
}

func TestBitsTellTheSameOnesAlone(t *testing.T) {
	for _, a := range kinds() {
		for _, b := range kinds() {
			same := num.Bits(a.float()) == num.Bits(b.float())
			if same != (a.place == b.place) || same != num.Same(a.float(), b.float()) {
				t.Errorf("P1.4: Bits of %x and %x are the same: %v", a.bits, b.bits, same)
			}
		}
	}
}

// TestListsAreLeftAlone asks for the room behind a list's length too.
func TestListsAreLeftAlone(t *testing.T) {
	var was []uint64
	var room []float64
	for _, k := range kinds() {
		was = append(was, k.bits)
		room = append(room, k.float())
	}
	slices.Reverse(was)
	slices.Reverse(room)
	for n := range len(room) + 1 {
		l := room[:n]
		num.Total(l...)
		num.Least(l...)
		num.Most(l...)
		for i, x := range room {
			if math.Float64bits(x) != was[i] {
				t.Fatalf("R2: of a list of %d the place %d was changed: %x", n, i, math.Float64bits(x))
			}
		}
	}
}

// TestRoomIsNotRead: what stands behind a list's length must not be told.
func TestRoomIsNotRead(t *testing.T) {
	l := []float64{1, 2, negInf, math.NaN()}[:2]
	if got := num.Total(l...); got != 3 {
		t.Errorf("R5: Total: %v", got)
	}
	if got, _ := num.Least(l...); got != 1 {
		t.Errorf("R5: Least: %v", got)
	}
	if got, _ := num.Most(l...); got != 2 {
		t.Errorf("R5: Most: %v", got)
	}
}
