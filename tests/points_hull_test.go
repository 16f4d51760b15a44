package tests

import (
	"math"
	"math/rand"
	"testing"

	"loop.example/g01171/impl"
)

// liesOn reports whether a point is on the way between two others, or one of them.
func liesOn(a, b, x complex64) bool {
	isAmong := func(p, q, r float32) bool { return min(p, q) <= r && r <= max(p, q) }
	return turnForTest(a, b, x) == 0 && isAmong(real(a), real(b), real(x)) && isAmong(imag(a), imag(b), imag(x))
}

// liesInTriangle reports whether a point is in a triangle that is not flat, or on its border.
func liesInTriangle(a, b, c, x complex64) bool {
	turn := turnForTest(a, b, c)
	return turn != 0 && turnForTest(a, b, x)*turn >= 0 && turnForTest(b, c, x)*turn >= 0 && turnForTest(c, a, x)*turn >= 0
}

// isSpanned reports whether a point is in the least convex set of points: then it is on a way between two of them, or in a triangle of three.
func isSpanned(list []complex64, x complex64) bool {
	for i, a := range list {
		for j, b := range list[:i+1] {
			if liesOn(a, b, x) {
				return true
			}
			for _, c := range list[:j] {
				if liesInTriangle(a, b, c, x) {
					return true
				}
			}
		}
	}
	return false
}

// withoutEqual leaves of equal points the first one in the order of points.
func withoutEqual(list []complex64) []complex64 {
	var kept []complex64
next:
	for _, x := range list {
		for i, y := range kept {
			if x == y {
				if isBehind(y, x) {
					kept[i] = x
				}
				continue next
			}
		}
		kept = append(kept, x)
	}
	return kept
}

// cornersForTest tells the corners of a hull, in any order.
func cornersForTest(list []complex64) map[complex64]bool {
	points := withoutEqual(list)
	corners := map[complex64]bool{}
	for i, x := range points {
		others := append(append([]complex64{}, points[:i]...), points[i+1:]...)
		if !isSpanned(others, x) {
			corners[x] = true
		}
	}
	return corners
}

// checkHull checks all that the document says of a hull.
func checkHull(t *testing.T, list []complex64) []complex64 {
	t.Helper()
	hull, code := impl.HullOf(list)
	if code != impl.OK {
		t.Fatalf("HullOf %s: got %s", listText(list), impl.CodeName(code))
	}
	want := cornersForTest(list)
	kept := map[string]bool{}
	for _, x := range withoutEqual(list) {
		kept[bitsText(x)] = true
	}
	isRight := len(hull) == len(want)
	for i, x := range hull {
		next := hull[(i+1)%len(hull)]
		isRight = isRight && want[x] && kept[bitsText(x)] && (i == 0 || isBehind(x, hull[0]))
		for _, y := range hull {
			isRight = isRight && (y == x || y == next || turnForTest(x, next, y) > 0)
		}
		for _, y := range hull[:i] {
			isRight = isRight && x != y
		}
	}
	if !isRight {
		t.Errorf("HullOf %s: got %s, want the corners %v", listText(list), listText(hull), want)
	}
	return hull
}

func wantHull(t *testing.T, list, want []complex64) {
	t.Helper()
	got, code := impl.HullOf(list)
	wantPoints(t, "HullOf "+listText(list), got, code, want, impl.OK)
	again, code := impl.HullOf(got)
	wantPoints(t, "HullOf a hull", again, code, want, impl.OK)
}

func TestHullOf(t *testing.T) {
	zero := complex(minusZero, minusZero)
	cases := []struct{ list, want []complex64 }{
		{nil, nil},
		{[]complex64{}, nil},
		{[]complex64{0, 1, 1 + 1i, 1i, 0.5 + 0.5i}, []complex64{0, 1, 1 + 1i, 1i}},
		{[]complex64{1i, 1 + 1i, 1, 0}, []complex64{0, 1, 1 + 1i, 1i}},
		{[]complex64{5 - 3i}, []complex64{5 - 3i}},
		{[]complex64{7i, 7i, 7i}, []complex64{7i}},
		{[]complex64{3, 1}, []complex64{1, 3}},
		{[]complex64{3, 2, 1, 5, 4}, []complex64{1, 5}},                              // on a level line
		{[]complex64{3i, 2i, 1i, 5i, 4i, 4i}, []complex64{1i, 5i}},                   // on an upright line
		{[]complex64{1 + 1i, 0, 3 + 3i, 2 + 2i}, []complex64{0, 3 + 3i}},             // on a slanting line
		{[]complex64{1 - 1i, 0, 3 - 3i, 2 - 2i}, []complex64{0, 3 - 3i}},             // and one downwards
		{[]complex64{0, 2, 1, 2 + 2i, 2 + 1i, 1 + 1i}, []complex64{0, 2, 2 + 2i}},    // points between corners
		{[]complex64{0, 1, 2, 3, 0.5 + 1i, 1i, 1i}, []complex64{0, 3, 0.5 + 1i, 1i}}, // 1i is a corner
		{[]complex64{0, complex(0, minusZero), complex(minusZero, 0), zero}, []complex64{zero}},
		{[]complex64{0, complex(0, minusZero)}, []complex64{complex(0, minusZero)}},
		{[]complex64{complex(0, minusZero), complex(minusZero, 0)}, []complex64{complex(minusZero, 0)}},
		{[]complex64{2, 0, complex(2, minusZero), 1}, []complex64{0, complex(2, minusZero)}},
	}
	for _, c := range cases {
		wantHull(t, c.list, c.want)
		checkHull(t, c.list)
	}
}

// -0 + 5i is ahead of 0 + 1i in the order of points, though it is above it on one upright line.
func TestHullsWithZerosOfBothSigns(t *testing.T) {
	left := func(b float32) complex64 { return complex(minusZero, b) }
	cases := []struct{ list, want []complex64 }{
		{[]complex64{left(5), 1i}, []complex64{left(5), 1i}},
		{[]complex64{left(5), 1i, 10i}, []complex64{1i, 10i}},
		{[]complex64{left(5), 1i, 3i}, []complex64{left(5), 1i}},
		{[]complex64{left(5), 1i, 1 + 3i}, []complex64{left(5), 1i, 1 + 3i}},
		{[]complex64{left(5), 1i, 10i, 1 + 3i}, []complex64{1i, 1 + 3i, 10i}},
		{[]complex64{left(5), 5i, 1i, left(1), 1 + 3i}, []complex64{left(1), 1 + 3i, left(5)}},
		{[]complex64{left(5), 1i, -1 + 3i}, []complex64{-1 + 3i, 1i, left(5)}},
		{[]complex64{1i, left(2), 3i, left(4), -2 + 1i, 2 + 1i}, []complex64{-2 + 1i, 2 + 1i, left(4)}},
		{[]complex64{complex(3, minusZero), complex(3, 0), 1, 2}, []complex64{1, complex(3, minusZero)}},
	}
	random := rand.New(rand.NewSource(30))
	for _, c := range cases {
		for range 5 {
			wantHull(t, shuffledPoints(random, c.list), c.want)
		}
		checkHull(t, c.list)
	}
}

// gridPoints returns points on a narrow grid, so that many are on lines, and zeros of both signs occur.
func gridPoints(random *rand.Rand, n int) []complex64 {
	scales := []float32{1, least, 0x1p100, leastNormal, 0.1}
	scale := scales[random.Intn(len(scales))]
	part := func() float32 {
		a := float32(random.Intn(5)-2) * scale
		if random.Intn(2) == 0 && a == 0 {
			return minusZero
		}
		return a
	}
	list := make([]complex64, n)
	for i := range list {
		list[i] = complex(part(), part())
	}
	return list
}

func TestHullsHaveTheCorners(t *testing.T) {
	random := rand.New(rand.NewSource(31))
	for range 400 {
		checkHull(t, gridPoints(random, 1+random.Intn(8)))
		checkHull(t, randomFinitePoints(random, 1+random.Intn(7)))
	}
}

func TestHullsDoNotDependOnTheOrder(t *testing.T) {
	random := rand.New(rand.NewSource(32))
	for range 200 {
		list := gridPoints(random, 1+random.Intn(20))
		if random.Intn(2) == 0 {
			list = randomFinitePoints(random, 1+random.Intn(100))
		}
		hull, code := impl.HullOf(list)
		again, codeAgain := impl.HullOf(shuffledPoints(random, list))
		wantPoints(t, "HullOf in another order", again, codeAgain, hull, code)
	}
}

func TestAllPointsLieInTheirHulls(t *testing.T) {
	random := rand.New(rand.NewSource(33))
	for range 100 {
		list := gridPoints(random, 1+random.Intn(30))
		if random.Intn(2) == 0 {
			list = randomFinitePoints(random, 1+random.Intn(60))
		}
		hull, _ := impl.HullOf(list)
		for _, x := range list {
			isIn, code := impl.IsInHull(hull, x)
			wantBool(t, "a point and its hull", isIn, code, true, impl.OK)
		}
		again, code := impl.HullOf(hull)
		wantPoints(t, "HullOf a hull", again, code, hull, impl.OK)
	}
}

// ringPoints returns n points, all of which are corners, in the order against the clock.
func ringPoints(n int) []complex64 {
	list := make([]complex64, n)
	for i := range list {
		turn := 2 * math.Pi * float64(i) / float64(n)
		list[i] = complex(float32(-1000*math.Cos(turn)), float32(-1000*math.Sin(turn)))
	}
	return list
}

func TestHullOfMaxPoints(t *testing.T) {
	ring := ringPoints(impl.MaxPoints)
	ring[0] = -1000
	random := rand.New(rand.NewSource(34))
	wantHull(t, shuffledPoints(random, ring), ring)
	wantHull(t, repeatedPoint(2i, impl.MaxPoints), []complex64{2i})
	for _, x := range []complex64{0, -1000, 999, 700 - 700i} {
		isIn, code := impl.IsInHull(ring, x)
		wantBool(t, "a great hull", isIn, code, true, impl.OK)
	}
	isIn, code := impl.IsInHull(ring, -1000+1i)
	wantBool(t, "beside a great hull", isIn, code, false, impl.OK)
}

func TestHullOfInvalid(t *testing.T) {
	for _, odd := range oddPoints() {
		for _, list := range [][]complex64{{odd}, {odd, 0, 1}, {0, 1, odd}, append(repeatedPoint(1, 255), odd)} {
			got, code := impl.HullOf(list)
			wantPoints(t, "HullOf an odd point", got, code, nil, impl.ErrRange)
		}
		for _, n := range []int{257, 1000000} {
			got, code := impl.HullOf(repeatedPoint(odd, n))
			wantPoints(t, "HullOf too many odd points", got, code, nil, impl.ErrLimit)
		}
	}
}

func TestIsInHull(t *testing.T) {
	square := []complex64{0, 2, 2 + 2i, 2i}
	slant := []complex64{0, 4 + 2i}
	cases := []struct {
		hull []complex64
		x    complex64
		want bool
	}{
		{square, 1 + 1i, true}, {square, 0, true}, {square, complex(minusZero, minusZero), true}, {square, 2 + 1i, true}, {square, 1, true},
		{square, 1i, true}, {square, 2 + 2i, true}, {square, complex(ofBits(0x40000001), 1), false}, {square, complex(minus(least), 1), false},
		{square, complex(1, minus(least)), false}, {square, complex(least, least), true}, {square, 3, false}, {square, -1, false}, {square, complex(greatest, greatest), false},
		{slant, 2 + 1i, true}, {slant, 0, true}, {slant, 4 + 2i, true}, {slant, 6 + 3i, false}, {slant, -2 - 1i, false}, {slant, 2, false}, {slant, 1 + 1i, false},
		{slant, complex(2, ofBits(0x3f800001)), false}, {slant, complex(2*least, least), true}, {slant, complex(least, least), false},
		{[]complex64{1, 3}, 2, true}, {[]complex64{1, 3}, 0, false}, {[]complex64{1, 3}, 4, false}, {[]complex64{1, 3}, complex(2, minusZero), true}, {[]complex64{1, 3}, 2 + 1i, false},
		{[]complex64{1i, 3i}, 2i, true}, {[]complex64{1i, 3i}, 4i, false}, {[]complex64{1i, 3i}, complex(minusZero, 1), true}, {[]complex64{1i, 3i}, 0, false},
		{[]complex64{5}, 5, true}, {[]complex64{5}, complex(5, minusZero), true}, {[]complex64{5}, 4, false}, {[]complex64{5}, 5 + 1i, false},
		{[]complex64{complex(minusZero, 0)}, 0, true}, {nil, 0, false}, {nil, 1 + 1i, false},
	}
	for _, c := range cases {
		got, code := impl.IsInHull(c.hull, c.x)
		wantBool(t, "IsInHull "+listText(c.hull)+" and "+bitsText(c.x), got, code, c.want, impl.OK)
	}
}

func TestIsInHullHeldAgainstTriangles(t *testing.T) {
	random := rand.New(rand.NewSource(35))
	inside, outside := 0, 0
	for range 300 {
		list := gridPoints(random, 1+random.Intn(7))
		if random.Intn(3) == 0 {
			list = randomFinitePoints(random, 1+random.Intn(6))
		}
		hull, _ := impl.HullOf(list)
		for _, x := range append(gridPoints(random, 3), list[0]/2, randomFinitePoint(random)) {
			want := isSpanned(list, x)
			got, code := impl.IsInHull(hull, x)
			wantBool(t, "IsInHull "+listText(hull)+" and "+bitsText(x), got, code, want, impl.OK)
			if want {
				inside++
			} else {
				outside++
			}
		}
	}
	if inside < 100 || outside < 100 {
		t.Errorf("the samples have %d points inside and %d outside", inside, outside)
	}
}

func TestIsInHullOfOtherLists(t *testing.T) {
	lists := [][]complex64{
		{1, 0},                              // on a line, the first one is not ahead
		{0, 1, 2},                           // one lies between
		{0, 0},                              // twice
		{0, complex(minusZero, 0)},          // equal ones
		{1, 1 + 1i, 1i, 0},                  // begins elsewhere
		{0, 1i, 1 + 1i, 1},                  // with the clock
		{0, 2, 2 + 2i, 2i, 1 + 1i},          // one lies inside
		{0, 1, 2, 2 + 2i, 2i},               // one lies on the border
		{1i, 1 + 3i, complex(minusZero, 5)}, // -0 + 5i is ahead
		{0, 2, 2i, 2 + 2i},                  // not in order
		{0, complex(2, 0), complex(2, minusZero)}, // equal ones
	}
	for _, list := range lists {
		got, code := impl.IsInHull(list, 0)
		wantBool(t, "IsInHull "+listText(list), got, code, false, impl.ErrState)
		for _, odd := range oddPoints() {
			got, code = impl.IsInHull(list, odd)
			wantBool(t, "a point that is not finite ahead of the hull", got, code, false, impl.ErrRange)
		}
	}
}

func TestIsInHullErrorsInOrder(t *testing.T) {
	ring := ringPoints(257)
	for _, odd := range oddPoints() {
		got, code := impl.IsInHull([]complex64{0, 1}, odd)
		wantBool(t, "an odd point", got, code, false, impl.ErrRange)
		got, code = impl.IsInHull(nil, odd)
		wantBool(t, "an odd point and no hull", got, code, false, impl.ErrRange)
		for _, list := range [][]complex64{{odd}, {1, odd, 0}, {0, 1, odd}} {
			got, code = impl.IsInHull(list, 0)
			wantBool(t, "an odd hull", got, code, false, impl.ErrRange)
		}
		got, code = impl.IsInHull(ring, odd)
		wantBool(t, "too many points ahead of an odd one", got, code, false, impl.ErrLimit)
		got, code = impl.IsInHull(repeatedPoint(odd, 257), 0)
		wantBool(t, "too many odd points", got, code, false, impl.ErrLimit)
	}
	got, code := impl.IsInHull(ring, 0)
	wantBool(t, "too many points", got, code, false, impl.ErrLimit)
	got, code = impl.IsInHull(repeatedPoint(1, 256), 1)
	wantBool(t, "MaxPoints points that are no hull", got, code, false, impl.ErrState)
	got, code = impl.IsInHull(repeatedPoint(1, 257), 1)
	wantBool(t, "more points that are no hull", got, code, false, impl.ErrLimit)
}
