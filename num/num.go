// Package num: floating numbers, and their edges: see doc/01-num.md.
package num

import (
	"cmp"
	"math"
)

// Kinds and numbers.
const (
	Finite    = 1
	Zero      = 2
	NegZero   = 3
	PosInf    = 4
	NegInf    = 5
	NotNumber = 6
)

// nanBits are the bits of the one NaN that stands for all of them.
const nanBits uint64 = 0x7ff8000000000001

// signBit is the bit of a float's sign.
const signBit uint64 = 1 << 63

// Canon answers x, and of each NaN the one NaN.
func Canon(x float64) float64 {
	if math.IsNaN(x) {
		return math.Float64frombits(nanBits)
	}
	return x
}

// Bits answers the bits of Canon(x).
func Bits(x float64) uint64 {
	return math.Float64bits(Canon(x))
}

// From answers Canon of the float that has the bits b.
func From(b uint64) float64 {
	return Canon(math.Float64frombits(b))
}

// Order answers -1, 0 or 1: -infinity, finite ones (-0 ahead of +0), +infinity, NaN.
func Order(a, b float64) int {
	return cmp.Compare(rank(a), rank(b))
}

// rank answers a number that rises as Order asks. The bits of floats without a
// sign rise with them already, and the one NaN's are above +infinity's; those
// of floats with a sign fall, so they are turned round and put below.
func rank(x float64) uint64 {
	b := Bits(x)
	if b&signBit != 0 {
		return ^b
	}
	return b | signBit
}

// Same tells whether Order finds no difference.
func Same(a, b float64) bool {
	return Order(a, b) == 0
}

// Sum answers Canon of the float64 sum.
func Sum(a, b float64) float64 {
	// The conversions keep a compiler that inlines this from fusing the sum
	// with a product that the caller hands in: that would round but once.
	return Canon(float64(a) + float64(b))
}

// Total sums up from the left; of none it is 0.
func Total(l ...float64) float64 {
	if len(l) == 0 {
		return 0
	}
	// Not from 0 on: 0 and -0 would be 0.
	t := Canon(l[0])
	for _, x := range l[1:] {
		t = Sum(t, x)
	}
	return t
}

// Least answers Canon of the lowest one by Order; false of none.
func Least(l ...float64) (float64, bool) {
	return furthest(l, -1)
}

// Most answers Canon of the highest one by Order; false of none.
func Most(l ...float64) (float64, bool) {
	return furthest(l, 1)
}

// furthest answers Canon of the one that no other is ahead of, where a is ahead of b if Order(a, b) is way.
func furthest(l []float64, way int) (float64, bool) {
	if len(l) == 0 {
		return 0, false
	}
	best := l[0]
	for _, x := range l[1:] {
		if Order(x, best) == way {
			best = x
		}
	}
	return Canon(best), true
}

// Class tells which of the six kinds x is.
func Class(x float64) int {
	switch {
	case math.IsNaN(x):
		return NotNumber
	case math.IsInf(x, 1):
		return PosInf
	case math.IsInf(x, -1):
		return NegInf
	case x != 0:
		return Finite
	case math.Signbit(x):
		return NegZero
	}
	return Zero
}
