package tests

import (
	"math"
	"math/big"
	"math/rand"
	"testing"

	"loop.example/g01171/impl"
)

// valueForTest tells the value of a valid circle at a valid spot.
func valueForTest(c impl.Circle, s impl.Spot) *big.Float {
	w := wideCircleOf(c)
	if s.Far {
		return w.a
	}
	z := widePoint(s.At)
	inner := widePlus(wideTimes(w.b.a, z.a), wideTimes(w.b.b, z.b))
	return widePlus(widePlus(wideTimes(w.a, z.squares()), wideTwice(inner)), w.c)
}

func TestSideOf(t *testing.T) {
	random := rand.New(rand.NewSource(210))
	spots := append(edgeSpots(), randomSpots(random, 100)...)
	sides := map[int64]int{}
	for _, c := range manyCircles(random, 300) {
		for _, s := range spots {
			side, code := impl.SideOf(c, s)
			wantNumber(t, "code of SideOf", code, impl.OK)
			wantNumber(t, "SideOf "+circleBits(c)+" and "+spotText(s), side, int64(valueForTest(c, s).Sign()))
			sides[side]++
		}
	}
	if len(sides) != 3 {
		t.Errorf("sides: %v", sides)
	}
}

func TestSideOfEdges(t *testing.T) {
	unit, l := impl.Circle{A: 1, C: -1}, complex(least, 0)
	cases := []struct {
		c    impl.Circle
		s    impl.Spot
		want int64
	}{
		{unit, near(2), 1}, {unit, near(1), 0}, {unit, near(0), -1}, {unit, farSpot, 1}, {unit, near(-1i), 0},
		{impl.Circle{A: -1, C: 1}, near(2), -1}, {impl.Circle{A: -1, C: 1}, farSpot, -1}, {impl.Circle{A: -1, C: 1}, near(0), 1},
		{unit, near(0.6 + 0.8i), 1},                          // 0.6 and 0.8 are rounded
		{unit, near(1 + 0x1p-23), 1}, {unit, near(1 - l), 0}, // least does not change 1
		{unit, near(complex(1, 0x1p-26)), 1},                  // a narrow square is lost
		{unit, near(complex(1, 0x1p-27)), 0},                  // a wide one as well
		{impl.Circle{A: least, C: minus(least)}, near(2i), 1}, // with values below narrow numbers
		{impl.Circle{A: least, B: 1}, near(l), 1}, {impl.Circle{A: least, B: 1}, near(-l), -1},
		{impl.Circle{A: greatest, C: -1}, near(complex(greatest, greatest)), 1}, {impl.Circle{A: -greatest, C: 1}, near(complex(greatest, greatest)), -1}, // with values beyond
		{impl.Circle{B: 1i, C: -2}, near(5 + 1i), 0}, {impl.Circle{B: 1i, C: -2}, near(5 + 2i), 1}, {impl.Circle{B: 1i, C: -2}, near(5), -1},
		{impl.Circle{B: 1i, C: -2}, farSpot, 0}, {impl.Circle{A: minusZero, B: 1i, C: -2}, farSpot, 0},
		{impl.Circle{B: 1i}, near(complex(3, minusZero)), 0}, {impl.Circle{A: minusZero, B: complex(minusZero, -1), C: minusZero}, near(0), 0},
		{impl.Circle{A: 1, B: 1}, near(-1 + 1i), 0}, {impl.Circle{A: 1, B: 1}, near(-1), -1}, {impl.Circle{A: 1, B: 1}, near(1), 1}, {impl.Circle{A: 1, B: 1i}, near(-1i), -1},
		{exactlyNone(), near(-1), 0}, {nearlyNone(), near(-1 - 0x1p-23), -1}, {nearlyNone(), near(-1), 0},
	}
	for _, c := range cases {
		side, code := impl.SideOf(c.c, c.s)
		wantNumber(t, "code of SideOf", code, impl.OK)
		wantNumber(t, "SideOf "+circleBits(c.c)+" and "+spotText(c.s), side, c.want)
	}
}

func TestSidesOfNothing(t *testing.T) {
	unit := impl.Circle{A: 1, C: -1}
	for _, s := range invalidSpots() {
		side, code := impl.SideOf(unit, s)
		wantNumber(t, "SideOf no spot", side, 0)
		wantNumber(t, "code of SideOf no spot", code, impl.ErrInvalid)
		mirrored, code := impl.MirrorIn(unit, s)
		wantSpot(t, "MirrorIn and no spot", mirrored, code, impl.Spot{}, impl.ErrInvalid)
	}
	for _, c := range invalidCircles() {
		for _, s := range []impl.Spot{near(2), farSpot, invalidSpots()[0]} {
			side, code := impl.SideOf(c, s)
			wantNumber(t, "SideOf of no circle", side, 0)
			wantNumber(t, "code of SideOf of no circle", code, impl.ErrInvalid)
			mirrored, code := impl.MirrorIn(c, s)
			wantSpot(t, "MirrorIn no circle", mirrored, code, impl.Spot{}, impl.ErrInvalid)
		}
	}
}

// mirrorForTest tells the spot that is opposite to a valid one in a valid circle.
func mirrorForTest(c impl.Circle, s impl.Spot) impl.Spot {
	if s.Far {
		centre, code := centreForTest(c)
		return impl.Spot{Far: code != impl.OK, At: centre}
	}
	w, z := wideCircleOf(c), widePoint(s.At).conjugate()
	above := w.b.negated().times(z).minus(wideNumber{w.c, wideOf(0)})
	below := z.scaled(w.a).plus(w.b.conjugate())
	if below.isZero() {
		return farSpot
	}
	if x := above.over(below).narrowed(); isFinitePoint(x) {
		return near(x)
	}
	return farSpot
}

func TestMirrorIn(t *testing.T) {
	random := rand.New(rand.NewSource(211))
	spots := append(edgeSpots(), randomSpots(random, 100)...)
	far := 0
	check := func(c impl.Circle, s impl.Spot) {
		got, code := impl.MirrorIn(c, s)
		wantSpot(t, "MirrorIn "+circleBits(c)+" and "+spotText(s), got, code, mirrorForTest(c, s), impl.OK)
		wantBool(t, "ValidSpot of a result", impl.ValidSpot(got), 0, true, 0)
		if got.Far && !s.Far {
			far++
		}
	}
	for _, c := range manyCircles(random, 300) {
		for _, s := range spots {
			check(c, s)
		}
	}
	for _, c := range zeroCircles() {
		for _, s := range zeroSpots() {
			check(c, s)
		}
	}
	if far == 0 {
		t.Error("nothing was taken far away")
	}
}

func TestMirrorInEdges(t *testing.T) {
	unit, l := impl.Circle{A: 1, C: -1}, complex(least, 0)
	line := impl.Circle{B: 1i, C: -2} // all points with the imaginary part 1
	cases := []struct {
		c       impl.Circle
		s, want impl.Spot
	}{
		{unit, near(2), near(0.5)}, {unit, near(-4i), near(-0.25i)}, {unit, near(1), near(1)}, {unit, near(3 + 4i), near(0.12 + 0.16i)},
		{unit, near(0), farSpot}, {unit, near(complex(minusZero, minusZero)), farSpot}, {unit, farSpot, near(0)}, {impl.Circle{A: -1, C: 1}, near(2), near(0.5)},
		{unit, near(l), farSpot}, {unit, near(0x1p-127), near(0x1p127)}, {unit, near(0x1p-128i), farSpot}, // quotients that overflow, or do not
		{unit, near(complex(greatest, 0)), near(complex(ofBits(0x00200000), 0))},
		{impl.Circle{A: 1, B: -3, C: 8}, near(4), near(4)}, {impl.Circle{A: 1, B: -3, C: 8}, near(3), farSpot}, {impl.Circle{A: 1, B: -3, C: 8}, farSpot, near(3)}, {impl.Circle{A: 1, B: -3, C: 8}, near(5), near(3.5)},
		{impl.Circle{A: 2, B: -2i, C: -6}, farSpot, near(1i)}, {impl.Circle{A: 2, B: -2i, C: -6}, near(1i), farSpot}, {impl.Circle{A: 2, B: -2i, C: -6}, near(5i), near(2i)},
		{line, near(0), near(2i)}, {line, near(3 + 5i), near(3 - 3i)}, {line, near(7 + 1i), near(7 + 1i)}, {line, farSpot, farSpot}, {impl.Circle{A: minusZero, B: 1i, C: -2}, farSpot, farSpot},
		{line, near(complex(0, -greatest)), near(complex(0, greatest))}, {impl.Circle{B: 1, C: greatest}, near(complex(greatest, 0)), farSpot},
		{impl.Circle{A: 0x1p-128, B: 1, C: -1}, farSpot, farSpot}, {impl.Circle{A: 0x1p-127, B: 1, C: -1}, farSpot, near(-0x1p127)}, // centres that overflow, or do not
		{exactlyNone(), near(-1), near(-1)},
	}
	for _, c := range cases {
		got, code := impl.MirrorIn(c.c, c.s)
		if got == c.want {
			c.want = got // the signs of zeros are held against math/big above
		}
		wantSpot(t, "MirrorIn "+circleBits(c.c)+" and "+spotText(c.s), got, code, c.want, impl.OK)
	}
}

// A mirror takes a spot to the other side, on the same ray from the centre, and back.
func TestMirrorsLeadThereAndBack(t *testing.T) {
	random := rand.New(rand.NewSource(212))
	for range 3000 {
		c := wholeCircle(random, 6)
		s := randomSpot(random)
		if !s.Far {
			s = near(complex(float32(random.Intn(41)-20)/4, float32(random.Intn(41)-20)/4))
		}
		there, _ := impl.MirrorIn(c, s)
		back, code := impl.MirrorIn(c, there)
		// A centre that is rounded is not taken far away, but nearly so.
		isFarAway := s.Far && (back.Far || impl.SizeOf(back.At) > 1e5)
		if code != impl.OK || !isFarAway && (s.Far || back.Far || !isClose(back.At, s.At, 1e-4)) {
			t.Errorf("MirrorIn %v: %v is taken to %v, and back to %v", c, s, there, back)
		}
		side, _ := impl.SideOf(c, s)
		other, _ := impl.SideOf(c, there)
		value, _ := valueForTest(c, there).Float64()
		if side != 0 && other != -side && math.Abs(value) > 1e-4 {
			t.Errorf("MirrorIn %v: %v and %v are on the sides %d and %d", c, s, there, side, other)
		}
	}
}

// In a circle, the distances of a point and of its mirror image from the centre have the square of the radius as product.
func TestMirrorsAndDistances(t *testing.T) {
	random := rand.New(rand.NewSource(213))
	for range 1000 {
		centre := complex(float32(random.Intn(9)-4), float32(random.Intn(9)-4))
		radius := float32(random.Intn(5) + 1)
		z := complex(float32(random.Intn(81)-40)/8, float32(random.Intn(81)-40)/8)
		if z == centre {
			continue
		}
		mirrored, _ := impl.MirrorIn(around(t, centre, radius), near(z))
		product := impl.DistanceOf(centre, z) * impl.DistanceOf(centre, mirrored.At)
		if math.Abs(float64(product/(radius*radius))-1) > 1e-4 {
			t.Errorf("MirrorIn %v, %v: %v is taken to %v", centre, radius, z, mirrored)
		}
	}
}

func spotOnForTest(c impl.Circle, turn complex64) (impl.Spot, int64) {
	w, by := wideCircleOf(c), widePoint(turn)
	var at wideNumber
	if c.A == 0 {
		half := wideTimes(wideOf(-0.5), w.c)
		foot, size := w.b.scaled(half), w.b.squares()
		nearest := wideNumber{wideOver(foot.a, size), wideOver(foot.b, size)}
		along := wideNumber{new(big.Float).Neg(w.b.b), w.b.a}
		at = nearest.plus(along.scaled(by.a))
	} else {
		centre, code := centreForTest(c)
		radius, radiusCode := radiusForTest(c)
		if code != impl.OK || radiusCode != impl.OK {
			return impl.Spot{}, impl.ErrState
		}
		at = widePoint(centre).plus(by.scaled(wideOf(radius)))
	}
	if x := at.narrowed(); isFinitePoint(x) {
		return near(x), impl.OK
	}
	return impl.Spot{}, impl.ErrState
}

func TestSpotOn(t *testing.T) {
	random := rand.New(rand.NewSource(214))
	turns := append(finitePoints(edgePoints()), randomFinitePoints(random, 50)...)
	codes := map[int64]int{}
	for _, c := range append(manyCircles(random, 300), zeroCircles()...) {
		for _, turn := range turns {
			got, code := impl.SpotOn(c, turn)
			want, wantCode := spotOnForTest(c, turn)
			wantSpot(t, "SpotOn "+circleBits(c)+" and "+bitsText(turn), got, code, want, wantCode)
			codes[code]++
		}
	}
	if codes[impl.OK] == 0 || codes[impl.ErrState] == 0 || len(codes) != 2 {
		t.Errorf("codes: %v", codes)
	}
}

func TestSpotOnEdges(t *testing.T) {
	unit, line := impl.Circle{A: 1, C: -1}, impl.Circle{B: 2i, C: -4}
	cases := []struct {
		c    impl.Circle
		turn complex64
		want impl.Spot
		code int64
	}{
		{unit, 1, near(1), impl.OK}, {unit, -1i, near(-1i), impl.OK}, {unit, 0, near(0), impl.OK}, {unit, 2 + 3i, near(2 + 3i), impl.OK}, // turns of any size
		{impl.Circle{A: 1, B: -3 + 1i, C: 6}, 1i, near(3 + 1i), impl.OK}, {impl.Circle{A: -1, B: 3 - 1i, C: -6}, -1, near(1 - 1i), impl.OK},
		{line, 0, near(1i), impl.OK}, {line, 1, near(-2 + 1i), impl.OK}, {line, -3, near(6 + 1i), impl.OK}, {line, 5i, near(1i), impl.OK}, // only the real part counts
		{impl.Circle{A: minusZero, B: 3 + 4i, C: -50}, 1, near(-1 + 7i), impl.OK}, {impl.Circle{B: 1, C: 6}, 2, near(-3 + 2i), impl.OK},
		{exactlyNone(), 5, near(complex(-1, -0x1p-40)), impl.OK}, // with the radius 0
		{impl.Circle{A: 1, B: -3, C: 8}, complex(greatest, 0), near(complex(greatest, 0)), impl.OK},
		{impl.Circle{A: 1, C: -4}, complex(greatest, 0), impl.Spot{}, impl.ErrState}, {impl.Circle{A: 1, C: -4}, complex(0, greatest), impl.Spot{}, impl.ErrState},
		{impl.Circle{A: least, C: minus(greatest)}, 0, impl.Spot{}, impl.ErrState}, {impl.Circle{A: 0x1p-128, B: 1, C: 0x1p127}, 0, impl.Spot{}, impl.ErrState}, // a radius or a centre that overflows
		{impl.Circle{B: complex(least, 0), C: 1}, 0, impl.Spot{}, impl.ErrState}, {impl.Circle{B: 2}, complex(greatest, 0), impl.Spot{}, impl.ErrState}, {impl.Circle{B: 2}, complex(0, greatest), near(0), impl.OK},
		{impl.Circle{A: least, C: minus(greatest)}, complex(infinite, 0), impl.Spot{}, impl.ErrRange}, {line, complex(0, notNumber), impl.Spot{}, impl.ErrRange},
	}
	for _, c := range cases {
		got, code := impl.SpotOn(c.c, c.turn)
		if got == c.want {
			c.want = got // the signs of zeros are held against math/big above
		}
		wantSpot(t, "SpotOn "+circleBits(c.c)+" and "+bitsText(c.turn), got, code, c.want, c.code)
	}
	for _, turn := range oddPoints() {
		for _, c := range []impl.Circle{unit, line} {
			got, code := impl.SpotOn(c, turn)
			wantSpot(t, "SpotOn "+bitsText(turn), got, code, impl.Spot{}, impl.ErrRange)
		}
	}
	for _, c := range invalidCircles() {
		for _, turn := range []complex64{1, complex(notNumber, 0)} {
			got, code := impl.SpotOn(c, turn)
			wantSpot(t, "SpotOn no circle", got, code, impl.Spot{}, impl.ErrInvalid)
		}
	}
}

// Circles and lines have their spots, nearly, and circles with a centre and a radius have it.
func TestSpotsLieOnTheirCircles(t *testing.T) {
	random := rand.New(rand.NewSource(215))
	for range 2000 {
		c := wholeCircle(random, 8)
		turn := []complex64{1, -1, 1i, -1i, 0.6 + 0.8i, -0.8 + 0.6i}[random.Intn(6)]
		s, code := impl.SpotOn(c, turn)
		value, _ := valueForTest(c, s).Float64()
		if code != impl.OK || math.Abs(value) > 1e-3 {
			t.Errorf("SpotOn %v and %v: got %v and %d, with the value %g", c, turn, s, code, value)
		}
		if c.A == 0 {
			continue
		}
		centre, _ := impl.CircleCentre(c)
		radius, _ := impl.CircleRadius(c)
		if distance := impl.DistanceOf(centre, s.At); math.Abs(float64(distance-radius)) > 1e-4 {
			t.Errorf("SpotOn %v and %v: the distance from the centre is %g, not %g", c, turn, distance, radius)
		}
		if again, code := impl.CircleAround(centre, radius); code == impl.OK {
			isAlike, code := impl.AreAlikeCircles(again, c, 1e-3)
			wantBool(t, "AreAlikeCircles of CircleAround and "+circleBits(c), isAlike, code, true, impl.OK)
		}
		middle, _ := impl.SideOf(c, near(centre))
		outside, _ := impl.SideOf(c, farSpot)
		wantNumber(t, "SideOf the centre", middle, -outside)
	}
}
