package tests

import (
	"fmt"
	"math"
	"math/big"
	"math/rand"
	"testing"

	"loop.example/g01171/impl"
)

// wideBits is the precision of wide numbers, whose sums and products big.Float rounds as IEEE 754 says.
const wideBits = 53

func samePoints(a, b complex64) bool { return same(real(a), real(b)) && same(imag(a), imag(b)) }

func samePointLists(a, b []complex64) bool {
	if len(a) != len(b) {
		return false
	}
	for i := range a {
		if !samePoints(a[i], b[i]) {
			return false
		}
	}
	return true
}

func isFinitePoint(x complex64) bool { return isFinite(real(x)) && isFinite(imag(x)) }

// bitsText tells a point to the last bit.
func bitsText(x complex64) string {
	part := func(a float32) string {
		if isNaN(a) {
			return "nan"
		}
		return fmt.Sprintf("%08x", bitsOf(a))
	}
	return part(real(x)) + " " + part(imag(x))
}

func listText(list []complex64) string {
	text := "["
	for _, x := range list {
		text += fmt.Sprintf("%g (%s) ", x, bitsText(x))
	}
	return text + "]"
}

func wantPoint(t *testing.T, name string, got complex64, code int64, want complex64, wantCode int64) {
	t.Helper()
	if !samePoints(got, want) || code != wantCode {
		t.Errorf("%s: got %g (%s) and %s, want %g (%s) and %s", name, got, bitsText(got), impl.CodeName(code), want, bitsText(want), impl.CodeName(wantCode))
	}
}

func wantPoints(t *testing.T, name string, got []complex64, code int64, want []complex64, wantCode int64) {
	t.Helper()
	if !samePointLists(got, want) || code != wantCode {
		t.Errorf("%s: got %s and %s, want %s and %s", name, listText(got), impl.CodeName(code), listText(want), impl.CodeName(wantCode))
	}
}

func wantBool(t *testing.T, name string, got bool, code int64, want bool, wantCode int64) {
	t.Helper()
	if got != want || code != wantCode {
		t.Errorf("%s: got %t and %s, want %t and %s", name, got, impl.CodeName(code), want, impl.CodeName(wantCode))
	}
}

// oddReals are the parts that are not finite.
func oddReals() []float32 {
	return []float32{infinite, minus(infinite), notNumber, minus(notNumber), ofBits(0x7f800001)}
}

// edgeParts is short enough for all points of such parts to be held against each other.
func edgeParts() []float32 {
	return []float32{0, minusZero, least, minus(least), ofBits(0x007fffff), minus(leastNormal), 0.1, 1, -3,
		16777217, minus(greatest), greatest, infinite, minus(infinite), notNumber}
}

func edgePoints() []complex64 {
	var list []complex64
	for _, a := range edgeParts() {
		for _, b := range edgeParts() {
			list = append(list, complex(a, b))
		}
	}
	return list
}

func finitePoints(list []complex64) []complex64 {
	var kept []complex64
	for _, x := range list {
		if isFinitePoint(x) {
			kept = append(kept, x)
		}
	}
	return kept
}

// oddPoints have one part or two that are not finite.
func oddPoints() []complex64 {
	var list []complex64
	for _, odd := range oddReals() {
		list = append(list, complex(odd, 1), complex(1, odd), complex(odd, odd))
	}
	return list
}

// randomPart is a whole number, an edge, a number of random bits, or one of ordinary size.
func randomPart(random *rand.Rand) float32 {
	switch random.Intn(4) {
	case 0:
		return float32(random.Intn(7) - 3)
	case 1:
		edges := edgeParts()
		return edges[random.Intn(len(edges))]
	case 2:
		return ofBits(random.Uint32())
	}
	return float32(random.NormFloat64())
}

func randomPoint(random *rand.Rand) complex64 {
	return complex(randomPart(random), randomPart(random))
}

func randomPoints(random *rand.Rand, n int) []complex64 {
	list := make([]complex64, n)
	for i := range list {
		list[i] = randomPoint(random)
	}
	return list
}

func randomFinitePoint(random *rand.Rand) complex64 {
	for {
		if x := randomPoint(random); isFinitePoint(x) {
			return x
		}
	}
}

func randomFinitePoints(random *rand.Rand, n int) []complex64 {
	list := make([]complex64, n)
	for i := range list {
		list[i] = randomFinitePoint(random)
	}
	return list
}

func repeatedPoint(x complex64, n int) []complex64 {
	list := make([]complex64, n)
	for i := range list {
		list[i] = x
	}
	return list
}

func shuffledPoints(random *rand.Rand, list []complex64) []complex64 {
	copied := append([]complex64{}, list...)
	random.Shuffle(len(copied), func(i, j int) { copied[i], copied[j] = copied[j], copied[i] })
	return copied
}

func wideOf(a float32) *big.Float {
	return new(big.Float).SetPrec(wideBits).SetFloat64(float64(a))
}

func wideTimes(x, y *big.Float) *big.Float { return new(big.Float).SetPrec(wideBits).Mul(x, y) }

func widePlus(x, y *big.Float) *big.Float { return new(big.Float).SetPrec(wideBits).Add(x, y) }

func wideMinus(x, y *big.Float) *big.Float { return new(big.Float).SetPrec(wideBits).Sub(x, y) }

// squaredDistance tells the sum of the squares of the differences of finite points.
func squaredDistance(x, y complex64) *big.Float {
	across := wideMinus(wideOf(real(x)), wideOf(real(y)))
	up := wideMinus(wideOf(imag(x)), wideOf(imag(y)))
	return widePlus(wideTimes(across, across), wideTimes(up, up))
}

// turnForTest tells the orientation of finite points from exact differences.
func turnForTest(a, b, c complex64) int64 {
	less := func(x, y float32) *big.Float {
		return new(big.Float).SetPrec(exactBits).Sub(exactly(x), exactly(y))
	}
	first := less(real(b), real(a))
	first.Mul(first, less(imag(c), imag(a)))
	second := less(imag(b), imag(a))
	second.Mul(second, less(real(c), real(a)))
	return int64(first.Cmp(second))
}

// isBehind orders points without the program.
func isBehind(x, y complex64) bool {
	placeX, placeY := placeForTest(real(x)), placeForTest(real(y))
	if placeX != placeY {
		return placeX > placeY
	}
	return placeForTest(imag(x)) > placeForTest(imag(y))
}

// guardedPoints returns a list with room behind it, and a function that reports whether list and room are as before.
func guardedPoints(list []complex64) ([]complex64, func() bool) {
	const room = 16
	whole := append(append(make([]complex64, 0, len(list)+room), list...), repeatedPoint(complex(12345, -1), room)...)
	before := append([]complex64{}, whole...)
	return whole[:len(list)], func() bool { return samePointLists(whole, before) }
}

func root(x *big.Float) float32 {
	wide, _ := x.Float64()
	return float32(math.Sqrt(wide))
}
