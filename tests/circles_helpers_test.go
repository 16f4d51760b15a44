package tests

import (
	"fmt"
	"math/big"
	"math/rand"
	"testing"

	"loop.example/g01171/impl"
)

// realsOfCircle tells A, both parts of B, and C.
func realsOfCircle(c impl.Circle) [4]float32 {
	return [4]float32{c.A, real(c.B), imag(c.B), c.C}
}

func circleOfReals(r [4]float32) impl.Circle {
	return impl.Circle{A: r[0], B: complex(r[1], r[2]), C: r[3]}
}

func sameCircles(c, d impl.Circle) bool {
	first, second := realsOfCircle(c), realsOfCircle(d)
	return sameLists(first[:], second[:])
}

func circleBits(c impl.Circle) string {
	return fmt.Sprintf("%v (%s, %s)", c, bitsText(c.B), bitsText(complex(c.A, c.C)))
}

func circlesText(list []impl.Circle) string {
	text := "["
	for _, c := range list {
		text += circleBits(c) + " "
	}
	return text + "]"
}

func wantCircle(t *testing.T, name string, got impl.Circle, code int64, want impl.Circle, wantCode int64) {
	t.Helper()
	if !sameCircles(got, want) || code != wantCode {
		t.Errorf("%s: got %s and %s, want %s and %s", name, circleBits(got), impl.CodeName(code), circleBits(want), impl.CodeName(wantCode))
	}
}

func wantCircles(t *testing.T, name string, got []impl.Circle, code int64, want []impl.Circle, wantCode int64) {
	t.Helper()
	isSame := len(got) == len(want) && code == wantCode
	for i := range min(len(got), len(want)) {
		isSame = isSame && sameCircles(got[i], want[i])
	}
	if !isSame {
		t.Errorf("%s: got %s and %s, want %s and %s", name, circlesText(got), impl.CodeName(code), circlesText(want), impl.CodeName(wantCode))
	}
}

// wideCircle has the wide parts of a circle, whose steps big.Float rounds.
type wideCircle struct {
	a *big.Float
	b wideNumber
	c *big.Float
}

func wideCircleOf(c impl.Circle) wideCircle {
	return wideCircle{wideOf(c.A), widePoint(c.B), wideOf(c.C)}
}

func (x wideNumber) conjugate() wideNumber {
	return wideNumber{x.a, new(big.Float).Neg(x.b)}
}

// scaled tells a real number times a complex one.
func (x wideNumber) scaled(by *big.Float) wideNumber {
	return wideNumber{wideTimes(by, x.a), wideTimes(by, x.b)}
}

func wideTwice(x *big.Float) *big.Float { return wideTimes(wideOf(2), x) }

// discriminant tells b * b + e * e - A * C in wide steps.
func (w wideCircle) discriminant() *big.Float {
	return wideMinus(w.b.squares(), wideTimes(w.a, w.c))
}

// isValidCircleForTest tells whether all parts are finite, and the exact discriminant is greater than 0.
func isValidCircleForTest(c impl.Circle) bool {
	reals := realsOfCircle(c)
	for _, a := range reals {
		if !isFinite(a) {
			return false
		}
	}
	product := func(i, j int) *big.Float {
		return new(big.Float).SetPrec(exactBits).Mul(exactly(reals[i]), exactly(reals[j]))
	}
	sum := product(1, 1)
	sum.Add(sum, product(2, 2))
	return sum.Cmp(product(0, 3)) > 0
}

// circleOrLimit tells a circle that has been made; the code is ErrLimit if it is not valid.
func circleOrLimit(c impl.Circle) (impl.Circle, int64) {
	if !isValidCircleForTest(c) {
		return impl.Circle{}, impl.ErrLimit
	}
	return c, impl.OK
}

func tidyCircleForTest(w wideCircle) (impl.Circle, int64) {
	return circleOrLimit(circleOfReals([4]float32(tidyReals([]*big.Float{w.a, w.b.a, w.b.b, w.c}))))
}

// exactlyNone is valid, but its wide discriminant is 0: the square of e is lost.
func exactlyNone() impl.Circle { return impl.Circle{A: 1, B: complex(1, 0x1p-40), C: 1} }

// nearlyNone has the discriminant 2 to the power -46, which narrow products do not show.
func nearlyNone() impl.Circle {
	return impl.Circle{A: 1, B: 1 + 0x1p-23, C: 1 + 0x1p-22}
}

func edgeCircles() []impl.Circle {
	z := complex(minusZero, minusZero)
	return []impl.Circle{
		{A: 1, C: -1}, {A: 1, B: z, C: -1}, {A: -1, C: 1}, {A: -1, B: z, C: 1}, {A: 1, B: -3, C: 8}, {A: 2, B: 1 - 3i, C: 4}, {A: -2, B: 5i}, {A: 1, B: 1, C: minusZero}, // circles
		{B: 1i}, {A: minusZero, B: 1i}, {B: 1, C: minusZero}, {A: minusZero, B: complex(minusZero, -2), C: 3}, {B: 3 - 4i, C: -10}, {B: complex(least, 0), C: 1}, {B: complex(0, minus(least))}, {B: complex(greatest, greatest), C: greatest}, // lines
		{A: least, B: complex(least, least), C: least}, {A: minus(least), B: complex(0, 2*least), C: 3 * least}, {A: least, C: minus(least)}, {A: leastNormal, B: complex(0x1p-140, -0x1p-126), C: -0x1p-130}, // subnormal parts
		{A: greatest, B: complex(greatest, greatest), C: greatest}, {A: minus(greatest), B: complex(minus(greatest), 1), C: greatest}, {A: greatest, C: -1}, {A: 1, C: minus(greatest)},
		{A: least, B: complex(greatest, 1), C: 1}, {A: least, C: minus(greatest)}, {A: 0x1p-100, B: complex(0, 0x1p27), C: -1}, {A: 0x1p-120, B: 3i, C: -1}, {A: 1, B: complex(greatest, 0), C: -1}, {A: 0x1p100, B: complex(0x1p-30, 0), C: -0x1p-140},
		exactlyNone(), nearlyNone(), {A: -1, B: complex(0x1p-40, 1), C: -1}, {A: 3, B: complex(3, 0x1p-30), C: 3}, {A: 0.1, B: complex(0.3, 0.7), C: 0.2}, {A: 1, B: complex(-0.1, 2.3), C: 1.7},
	}
}

// invalidCircles have the discriminant 0, exactly, or a lesser one, or parts that are not finite.
func invalidCircles() []impl.Circle {
	l := complex(least, 0)
	list := []impl.Circle{
		{}, {A: 1}, {C: 1}, {A: minusZero, B: complex(minusZero, minusZero), C: 2}, {A: 1, C: 1}, {A: -1, C: -1}, {A: 1, B: 1, C: 1}, {A: -1, B: 1, C: -1},
		{A: 1, B: 1i, C: 1}, {A: 1, B: 3 + 4i, C: 25}, {A: 1, B: 3 + 4i, C: 26}, {A: least, B: l, C: least}, {A: least, C: least}, {A: 1 + 0x1p-23, B: 1 + 0x1p-23, C: 1 + 0x1p-23},
		{A: 1 + 0x1p-22, B: 1 + 0x1p-23, C: 1 + 0x1p-22}, {A: 1, B: complex(least, 0), C: least}, {A: greatest, B: complex(greatest, 0), C: greatest}, {A: greatest, B: complex(0, 1), C: 1},
	}
	for i := range 4 {
		for _, odd := range oddReals() {
			reals := [4]float32{1, 2, 3, -4}
			reals[i] = odd
			list = append(list, circleOfReals(reals))
		}
	}
	return append(list, impl.Circle{B: complex(infinite, 1)}, impl.Circle{A: infinite, B: 1, C: minus(infinite)}, impl.Circle{A: notNumber, B: complex(notNumber, notNumber), C: notNumber})
}

func randomCircle(random *rand.Rand) impl.Circle {
	for {
		reals := [4]float32{mapPart(random), mapPart(random), mapPart(random), mapPart(random)}
		switch random.Intn(8) {
		case 0:
			reals[0] = 0
		case 1:
			reals[random.Intn(4)] = reals[random.Intn(4)]
		}
		if c := circleOfReals(reals); isValidCircleForTest(c) {
			return c
		}
	}
}

func manyCircles(random *rand.Rand, n int) []impl.Circle {
	list := edgeCircles()
	for range n {
		list = append(list, randomCircle(random))
	}
	return list
}

// zeroCircles have zeros of both signs in all places in which they can be.
func zeroCircles() []impl.Circle {
	var list []impl.Circle
	choice := []float32{0, minusZero, 1, -1}
	for _, a := range choice {
		for _, b := range choice {
			for _, e := range choice {
				for _, c := range choice {
					if made := circleOfReals([4]float32{a, b, e, c}); isValidCircleForTest(made) {
						list = append(list, made)
					}
				}
			}
		}
	}
	return list
}

// zeroMaps are maps whose parts are zeros of both signs, 1 and -1.
func zeroMaps(random *rand.Rand, n int) []impl.Map {
	choice := []float32{0, minusZero, 0, minusZero, 1, -1}
	var list []impl.Map
	for len(list) < n {
		var reals [8]float32
		for i := range reals {
			reals[i] = choice[random.Intn(len(choice))]
		}
		if m := mapOfReals(reals); isValidForTest(m) {
			list = append(list, m)
		}
	}
	return list
}

// zeroSpots are the far spot, and points whose parts are zeros of both signs, 1 and -1.
func zeroSpots() []impl.Spot {
	list := []impl.Spot{farSpot}
	choice := []float32{0, minusZero, 1, -1}
	for _, a := range choice {
		for _, b := range choice {
			list = append(list, near(complex(a, b)))
		}
	}
	return list
}

// wholeCircle has small whole parts.
func wholeCircle(random *rand.Rand, most int) impl.Circle {
	part := func() float32 { return float32(random.Intn(2*most+1) - most) }
	for {
		if c := circleOfReals([4]float32{part(), part(), part(), part()}); isValidCircleForTest(c) {
			return c
		}
	}
}

// around makes a circle with a centre and a radius of small whole numbers.
func around(t *testing.T, centre complex64, radius float32) impl.Circle {
	t.Helper()
	c, code := impl.CircleAround(centre, radius)
	wantNumber(t, "code of CircleAround", code, impl.OK)
	return c
}
