package tests

import (
	"math"
	"math/big"
	"math/rand"
	"testing"

	"loop.example/g01171/impl"
)

// exactBits is so great that sums and products of narrow numbers are exact in big.Float.
const exactBits = 4000

const (
	greatest = float32(math.MaxFloat32)
	least    = float32(math.SmallestNonzeroFloat32)
	// leastNormal is 2 to the power -126.
	leastNormal = float32(0x1p-126)
)

func bitsOf(a float32) uint32 { return math.Float32bits(a) }

func ofBits(word uint32) float32 { return math.Float32frombits(word) }

func minus(a float32) float32 { return ofBits(bitsOf(a) ^ 1<<31) }

func isNaN(a float32) bool { return a != a }

func isInf(a float32) bool { return a > greatest || a < -greatest }

func isFinite(a float32) bool { return !isNaN(a) && !isInf(a) }

var (
	minusZero = ofBits(1 << 31)
	infinite  = ofBits(0x7f800000)
	notNumber = ofBits(0x7fc00000)
)

// same holds two numbers against each other as the document compares answers.
func same(a, b float32) bool { return isNaN(a) && isNaN(b) || bitsOf(a) == bitsOf(b) }

func sameLists(a, b []float32) bool {
	if len(a) != len(b) {
		return false
	}
	for i := range a {
		if !same(a[i], b[i]) {
			return false
		}
	}
	return true
}

// wantReal checks a number and a code that were returned.
func wantReal(t *testing.T, name string, got float32, code int64, want float32, wantCode int64) {
	t.Helper()
	if !same(got, want) || code != wantCode {
		t.Errorf("%s: got %g (%08x) and %s, want %g (%08x) and %s", name, got, bitsOf(got), impl.CodeName(code), want, bitsOf(want), impl.CodeName(wantCode))
	}
}

func wantNumber(t *testing.T, name string, got, want int64) {
	t.Helper()
	if got != want {
		t.Errorf("%s: got %d, want %d", name, got, want)
	}
}

// edgeReals returns the numbers that chapter 1 names, and their neighbours, with both signs.
func edgeReals() []float32 {
	words := []uint32{
		0, 1, 2, 3, 0x00400000, 0x007ffffe, 0x007fffff, // zero and subnormal numbers
		0x00800000, 0x00800001, 0x00ffffff, 0x01000000, // around the least normal one
		0x3effffff, 0x3f000000, 0x3f7fffff, 0x3f800000, 0x3f800001, 0x3fc00000, 0x40000000, 0x40400000,
		0x4b7fffff, 0x4b800000, 0x4b800001, // around 2 to the power 24
		0x7effffff, 0x7f000000, 0x7f7ffffe, 0x7f7fffff, // the greatest ones
		0x7f800000, 0x7f800001, 0x7fbfffff, 0x7fc00000, 0x7fc00001, 0x7fffffff, // infinity and NaNs
	}
	var list []float32
	for _, word := range words {
		list = append(list, ofBits(word), ofBits(word|1<<31))
	}
	return list
}

// manyReals returns the edges, each power of 2 with its neighbours, and numbers of random bits.
func manyReals() []float32 {
	list := edgeReals()
	for exponent := uint32(1); exponent < 255; exponent++ {
		word := exponent << 23
		list = append(list, ofBits(word-1), ofBits(word), ofBits(word|1<<31), ofBits(word+1), ofBits(word+0x00400000))
	}
	for bit := uint32(0); bit < 23; bit++ {
		list = append(list, ofBits(1<<bit), ofBits(1<<31|1<<bit), ofBits(1<<bit|1))
	}
	random := rand.New(rand.NewSource(1))
	for range 3000 {
		list = append(list, ofBits(random.Uint32()))
	}
	return list
}

func finiteReals() []float32 {
	var list []float32
	for _, a := range manyReals() {
		if isFinite(a) {
			list = append(list, a)
		}
	}
	return list
}

func exactly(a float32) *big.Float {
	return new(big.Float).SetPrec(exactBits).SetFloat64(float64(a))
}

func exactlyParts(fraction, exponent int64) *big.Float {
	whole := new(big.Float).SetPrec(exactBits).SetInt64(fraction)
	return new(big.Float).SetPrec(exactBits).SetMantExp(whole, int(exponent))
}

// roundedOnce rounds to the nearest narrow number; what is 0 becomes 0, not -0.
func roundedOnce(x *big.Float) float32 {
	if x.Sign() == 0 {
		return 0
	}
	a, _ := x.Float32()
	return a
}

// exactDot tells what ExactDot and SignOfDot have to return.
func exactDot(x, y []float32) (float32, int64) {
	sum := new(big.Float).SetPrec(exactBits)
	above, below, nan := false, false, false
	for i := range x {
		if isFinite(x[i]) && isFinite(y[i]) {
			sum.Add(sum, new(big.Float).SetPrec(exactBits).Mul(exactly(x[i]), exactly(y[i])))
			continue
		}
		zero := x[i] == 0 || y[i] == 0
		nan = nan || isNaN(x[i]) || isNaN(y[i]) || zero
		negative := bitsOf(x[i])>>31 != bitsOf(y[i])>>31
		above = above || !negative
		below = below || negative
	}
	switch {
	case nan || above && below:
		return notNumber, 0
	case above:
		return infinite, 0
	case below:
		return minus(infinite), 0
	}
	return roundedOnce(sum), int64(sum.Sign())
}

func ones(n int) []float32 { return repeated(1, n) }

func repeated(a float32, n int) []float32 {
	list := make([]float32, n)
	for i := range list {
		list[i] = a
	}
	return list
}

func shuffled(random *rand.Rand, list []float32) []float32 {
	copied := append([]float32{}, list...)
	random.Shuffle(len(copied), func(i, j int) { copied[i], copied[j] = copied[j], copied[i] })
	return copied
}
