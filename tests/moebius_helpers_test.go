package tests

import (
	"fmt"
	"math"
	"math/big"
	"math/rand"
	"testing"

	"loop.example/g01171/impl"
)

var farSpot = impl.Spot{Far: true}

func near(x complex64) impl.Spot { return impl.Spot{At: x} }

func nearAll(points ...complex64) []impl.Spot {
	list := make([]impl.Spot, len(points))
	for i, x := range points {
		list[i] = near(x)
	}
	return list
}

func sameSpots(s, t impl.Spot) bool { return s.Far == t.Far && samePoints(s.At, t.At) }

func partsOf(m impl.Map) [4]complex64 { return [4]complex64{m.A, m.B, m.C, m.D} }

func mapOf(parts [4]complex64) impl.Map {
	return impl.Map{A: parts[0], B: parts[1], C: parts[2], D: parts[3]}
}

// realsOf tells the eight parts of a map.
func realsOf(m impl.Map) [8]float32 {
	var reals [8]float32
	for i, x := range partsOf(m) {
		reals[2*i], reals[2*i+1] = real(x), imag(x)
	}
	return reals
}

func mapOfReals(r [8]float32) impl.Map {
	return impl.Map{A: complex(r[0], r[1]), B: complex(r[2], r[3]), C: complex(r[4], r[5]), D: complex(r[6], r[7])}
}

func sameMaps(m, n impl.Map) bool {
	first, second := realsOf(m), realsOf(n)
	return sameLists(first[:], second[:])
}

func spotText(s impl.Spot) string { return fmt.Sprintf("%v (%s)", s, bitsText(s.At)) }

func spotsText(list []impl.Spot) string {
	text := "["
	for _, s := range list {
		text += spotText(s) + " "
	}
	return text + "]"
}

func mapBits(m impl.Map) string {
	text := fmt.Sprintf("%v", m)
	for _, x := range partsOf(m) {
		text += ", " + bitsText(x)
	}
	return text
}

func wantSpot(t *testing.T, name string, got impl.Spot, code int64, want impl.Spot, wantCode int64) {
	t.Helper()
	if !sameSpots(got, want) || code != wantCode {
		t.Errorf("%s: got %s and %s, want %s and %s", name, spotText(got), impl.CodeName(code), spotText(want), impl.CodeName(wantCode))
	}
}

func wantSpots(t *testing.T, name string, got []impl.Spot, code int64, want []impl.Spot, wantCode int64) {
	t.Helper()
	isSame := len(got) == len(want) && code == wantCode
	for i := range min(len(got), len(want)) {
		isSame = isSame && sameSpots(got[i], want[i])
	}
	if !isSame {
		t.Errorf("%s: got %s and %s, want %s and %s", name, spotsText(got), impl.CodeName(code), spotsText(want), impl.CodeName(wantCode))
	}
}

func wantMap(t *testing.T, name string, got impl.Map, code int64, want impl.Map, wantCode int64) {
	t.Helper()
	if !sameMaps(got, want) || code != wantCode {
		t.Errorf("%s: got %s and %s, want %s and %s", name, mapBits(got), impl.CodeName(code), mapBits(want), impl.CodeName(wantCode))
	}
}

// wideNumber is a wide complex number, whose steps big.Float rounds.
type wideNumber struct{ a, b *big.Float }

func widePoint(x complex64) wideNumber { return wideNumber{wideOf(real(x)), wideOf(imag(x))} }

func (x wideNumber) plus(y wideNumber) wideNumber {
	return wideNumber{widePlus(x.a, y.a), widePlus(x.b, y.b)}
}

func (x wideNumber) minus(y wideNumber) wideNumber {
	return wideNumber{wideMinus(x.a, y.a), wideMinus(x.b, y.b)}
}

func (x wideNumber) negated() wideNumber {
	return wideNumber{new(big.Float).Neg(x.a), new(big.Float).Neg(x.b)}
}

func (x wideNumber) times(y wideNumber) wideNumber {
	across := wideMinus(wideTimes(x.a, y.a), wideTimes(x.b, y.b))
	return wideNumber{across, widePlus(wideTimes(x.a, y.b), wideTimes(x.b, y.a))}
}

func wideOver(x, y *big.Float) *big.Float { return new(big.Float).SetPrec(wideBits).Quo(x, y) }

// squares tells the SquareSum of the document.
func (x wideNumber) squares() *big.Float { return widePlus(wideTimes(x.a, x.a), wideTimes(x.b, x.b)) }

func (x wideNumber) isZero() bool { return x.a.Sign() == 0 && x.b.Sign() == 0 }

// over tells the wide quotient by a number that is not 0.
func (x wideNumber) over(y wideNumber) wideNumber {
	s := y.squares()
	across := widePlus(wideTimes(x.a, y.a), wideTimes(x.b, y.b))
	up := wideMinus(wideTimes(x.b, y.a), wideTimes(x.a, y.b))
	return wideNumber{wideOver(across, s), wideOver(up, s)}
}

func (x wideNumber) narrowed() complex64 {
	a, _ := x.a.Float32()
	b, _ := x.b.Float32()
	return complex(a, b)
}

// wideRoot tells the square root of a real number; big.Float has no promise for the last bit.
func wideRoot(x *big.Float) *big.Float {
	wide, _ := x.Float64()
	return new(big.Float).SetPrec(wideBits).SetFloat64(math.Sqrt(wide))
}

func wideParts(m impl.Map) [4]wideNumber {
	var wide [4]wideNumber
	for i, x := range partsOf(m) {
		wide[i] = widePoint(x)
	}
	return wide
}

func determinantForTest(m impl.Map) wideNumber {
	w := wideParts(m)
	return w[0].times(w[3]).minus(w[1].times(w[2]))
}

// hasExactDeterminant tells whether the determinant of finite parts is not 0, exactly.
func hasExactDeterminant(m impl.Map) bool {
	r := realsOf(m)
	sum := func(signs [4]float64, pairs [4][2]int) bool {
		total := new(big.Float).SetPrec(exactBits)
		for i, p := range pairs {
			term := new(big.Float).SetPrec(exactBits).Mul(exactly(r[p[0]]), exactly(r[p[1]]))
			total.Add(total, term.Mul(term, big.NewFloat(signs[i])))
		}
		return total.Sign() != 0
	}
	across := sum([4]float64{1, -1, -1, 1}, [4][2]int{{0, 6}, {1, 7}, {2, 4}, {3, 5}})
	up := sum([4]float64{1, 1, -1, -1}, [4][2]int{{0, 7}, {1, 6}, {2, 5}, {3, 4}})
	return across || up
}

func isValidForTest(m impl.Map) bool {
	for _, a := range realsOf(m) {
		if !isFinite(a) {
			return false
		}
	}
	return hasExactDeterminant(m)
}

// tidyReals makes wide parts tidy.
func tidyReals(parts []*big.Float) []float32 {
	greatestExponent, isZero := 0, true
	for _, part := range parts {
		exponent := part.MantExp(nil)
		if part.Sign() != 0 && (isZero || exponent > greatestExponent) {
			greatestExponent, isZero = exponent, false
		}
	}
	tidy := make([]float32, len(parts))
	for i, part := range parts {
		tidy[i] = narrowOf(new(big.Float).SetMantExp(part, 1-greatestExponent))
	}
	return tidy
}

// tidyForTest makes wide parts tidy; the code is ErrLimit if they are no map.
func tidyForTest(parts [4]wideNumber) (impl.Map, int64) {
	var reals []*big.Float
	for _, x := range parts {
		reals = append(reals, x.a, x.b)
	}
	m := mapOfReals([8]float32(tidyReals(reals)))
	if !isValidForTest(m) {
		return impl.Map{}, impl.ErrLimit
	}
	return m, impl.OK
}

// wideDeterminant0 is valid, but its wide determinant is 0: both products are rounded to the same number.
func wideDeterminant0() impl.Map {
	return impl.Map{A: 1<<30 + 1i, B: 1 << 29, C: 1<<31 + 4i, D: 1<<30 + 1i}
}

// narrowDeterminant0 is valid, with the determinant 2 to the power -46, which narrow products do not show.
func narrowDeterminant0() impl.Map {
	return impl.Map{A: 1 + 0x1p-23, B: 1, C: 1 + 0x1p-22, D: 1 + 0x1p-23}
}

func edgeMaps() []impl.Map {
	z := complex(minusZero, minusZero)
	return []impl.Map{
		{A: 1, D: 1}, {A: 2, D: 2}, {A: -1, B: z, C: z, D: -1}, {A: 1i, D: 1i}, // identities
		{A: 1, B: 1, D: 1}, {A: 1, C: 1, D: 1}, {A: 3, B: -4, C: 1, D: -1}, {A: 1, B: complex(least, 0), D: 1},
		{A: 2, D: 1}, {A: -2, D: 1}, {A: 1i, D: 1}, {A: 1 + 1i, D: 1}, {A: -1, D: 1},
		{B: 1, C: 1}, {B: -1, C: 1}, {A: 2, B: 1, C: 1, D: 1}, {A: 1, B: -1, C: 1}, {A: 1i, B: 2, C: -1, D: 3 - 1i},
		{A: 2, B: 3, C: z, D: 5}, {A: complex(1, minusZero), B: complex(minusZero, 2), C: complex(1, minusZero), D: complex(2, 0)},
		{A: complex(1, minusZero), B: 1, C: complex(3, minusZero), D: 4}, {A: complex(minusZero, minusZero), B: -1, C: complex(1, minusZero), D: z},
		{A: complex(least, 0), D: complex(0, least)}, {A: complex(least, least), B: complex(2*least, 0), C: 1, D: complex(least, 0)},
		{A: complex(greatest, 0), B: complex(0, minus(greatest)), C: 1, D: complex(0, 1)}, {A: complex(greatest, greatest), D: complex(greatest, minus(greatest))},
		{A: 0x1p100, D: 0x1p-49}, {A: 0x1p100, D: 0x1p-26}, {A: 1, B: 0x1p-140, C: 0x1p120, D: 1},
		wideDeterminant0(), narrowDeterminant0(),
		{A: 0.1, B: 0.2, C: 0.3, D: 0.4}, {A: 0.1 + 0.7i, B: -0.2, C: 0.3i, D: 1.4 - 0.3i},
	}
}

// invalidMaps have the determinant 0, exactly, or parts that are not finite.
func invalidMaps() []impl.Map {
	l := complex(least, 0)
	list := []impl.Map{
		{}, {A: 1}, {A: 1, B: 2, C: 2, D: 4}, {A: 1i, B: -1, C: 1, D: 1i}, {A: 1, B: 1, C: 1, D: 1}, {B: 1, D: 1},
		{A: l, B: l, C: l, D: l}, {A: 0x1p-149, B: 0x1p-140, C: 0x1p-9, D: 1}, {A: 0.1, B: 0.2, C: 0.1, D: 0.2},
		{A: complex(greatest, greatest), B: complex(greatest, greatest), C: complex(1, 1), D: complex(1, 1)},
		{A: complex(minusZero, 0), D: 1},
	}
	for i := range 8 {
		for _, odd := range oddReals() {
			reals := [8]float32{2, 1, 1, 0, 1, 0, 1, 1}
			reals[i] = odd
			list = append(list, mapOfReals(reals))
		}
	}
	return list
}

func edgeSpots() []impl.Spot {
	list := []impl.Spot{farSpot}
	for _, x := range finitePoints(edgePoints()) {
		list = append(list, near(x))
	}
	return list
}

func invalidSpots() []impl.Spot {
	list := []impl.Spot{
		{Far: true, At: 1}, {Far: true, At: complex(minusZero, 0)}, {Far: true, At: complex(0, minusZero)},
		{Far: true, At: complex(0, least)}, {Far: true, At: complex(notNumber, 0)}, {Far: true, At: complex(0, infinite)},
	}
	for _, x := range oddPoints() {
		list = append(list, near(x))
	}
	return list
}

// mapPart is a small whole number, a zero, a finite edge, or a number of ordinary size or of random bits.
func mapPart(random *rand.Rand) float32 {
	switch random.Intn(4) {
	case 0:
		return []float32{0, minusZero, 1, -1}[random.Intn(4)]
	case 1:
		return float32(random.Intn(9) - 4)
	case 2:
		return float32(random.NormFloat64())
	}
	for {
		if a := randomPart(random); isFinite(a) {
			return a
		}
	}
}

func mapPoint(random *rand.Rand) complex64 {
	if random.Intn(3) == 0 {
		return complex(mapPart(random), 0)
	}
	return complex(mapPart(random), mapPart(random))
}

func randomMap(random *rand.Rand) impl.Map {
	for {
		var parts [4]complex64
		for i := range parts {
			parts[i] = mapPoint(random)
			if random.Intn(5) == 0 {
				parts[i] = parts[random.Intn(i+1)]
			}
		}
		if m := mapOf(parts); isValidForTest(m) {
			return m
		}
	}
}

func manyMaps(random *rand.Rand, n int) []impl.Map {
	list := edgeMaps()
	for range n {
		list = append(list, randomMap(random))
	}
	return list
}

func randomSpot(random *rand.Rand) impl.Spot {
	if random.Intn(6) == 0 {
		return farSpot
	}
	return near(mapPoint(random))
}

func randomSpots(random *rand.Rand, n int) []impl.Spot {
	list := make([]impl.Spot, n)
	for i := range list {
		list[i] = randomSpot(random)
	}
	return list
}

func wholeMap(random *rand.Rand, most int) impl.Map {
	for {
		var reals [8]float32
		for i := range reals {
			reals[i] = float32(random.Intn(2*most+1) - most)
		}
		if m := mapOfReals(reals); isValidForTest(m) {
			return m
		}
	}
}

func repeatedSpot(s impl.Spot, n int) []impl.Spot {
	list := make([]impl.Spot, n)
	for i := range list {
		list[i] = s
	}
	return list
}

func isClose(x, y complex64, bound float64) bool {
	difference := complex128(x) - complex128(y)
	return math.Hypot(real(difference), imag(difference)) <= bound
}
