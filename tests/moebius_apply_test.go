package tests

import (
	"math"
	"math/big"
	"math/rand"
	"testing"

	"loop.example/g01171/impl"
)

// applyForTest tells to which spot a valid map takes a valid spot.
func applyForTest(m impl.Map, s impl.Spot) impl.Spot {
	w := wideParts(m)
	above, below := w[0], w[2]
	if !s.Far {
		z := widePoint(s.At)
		above, below = w[0].times(z).plus(w[1]), w[2].times(z).plus(w[3])
	}
	if below.isZero() {
		return farSpot
	}
	if x := above.over(below).narrowed(); isFinitePoint(x) {
		return near(x)
	}
	return farSpot
}

func TestApplyMap(t *testing.T) {
	random := rand.New(rand.NewSource(110))
	list := append(edgeSpots(), randomSpots(random, 50)...)
	for _, m := range manyMaps(random, 100) {
		for _, s := range list {
			got, code := impl.ApplyMap(m, s)
			wantSpot(t, "ApplyMap "+mapBits(m)+" to "+spotText(s), got, code, applyForTest(m, s), impl.OK)
			wantBool(t, "ValidSpot of a result", impl.ValidSpot(got), 0, true, 0)
		}
	}
}

func TestApplyMapEdges(t *testing.T) {
	l := complex(least, 0)
	cases := []struct {
		m    impl.Map
		s    impl.Spot
		want impl.Spot
	}{
		{impl.FlipMap(), near(2), near(0.5)},
		{impl.FlipMap(), near(0), farSpot},
		{impl.FlipMap(), near(complex(minusZero, minusZero)), farSpot},
		{impl.FlipMap(), farSpot, near(0)},
		{impl.FlipMap(), near(1i), near(complex(0, -1))},
		{impl.FlipMap(), near(l), farSpot}, // the quotient overflows
		{impl.FlipMap(), near(complex(0, least)), farSpot},
		{impl.FlipMap(), near(0x1p-127), near(0x1p127)}, // a subnormal point whose quotient does not
		{impl.FlipMap(), near(0x1p-128), farSpot},
		{impl.IdentityMap(), farSpot, farSpot},
		{impl.Map{A: 1, B: 1, C: complex(minusZero, 0), D: 1}, farSpot, farSpot},
		{impl.Map{A: 6, B: 1, C: 2, D: 1}, farSpot, near(3)},
		{impl.Map{A: complex(greatest, 0), B: 1, C: 0.5, D: 1}, farSpot, farSpot}, // the quotient overflows
		{impl.Map{A: complex(0, greatest), B: 1, C: 0.5, D: 1}, farSpot, farSpot},
		{impl.Map{A: l, B: 1, C: 4, D: 1}, farSpot, near(0)},
		{impl.Map{A: 1, B: -3, C: 1, D: -2}, near(2), farSpot},
		{impl.Map{A: 1, B: -3, C: 1, D: -2}, near(3), near(0)},
		{impl.Map{A: 2, D: 1}, near(complex(greatest, 0)), farSpot},
		{impl.Map{A: 2, D: 1}, near(complex(1, greatest)), farSpot},
		{impl.Map{A: 0.5, D: 1}, near(l), near(0)},
		{impl.Map{A: 0.5, D: 1}, near(3 * l), near(2 * l)}, // ties to even
		{impl.Map{A: 1, B: 1, D: 1}, near(-1), near(0)},
		{impl.Map{A: 1, B: -1, D: 1}, near(0), near(-1)},
		{impl.Map{A: complex(greatest, 0), B: 1, C: complex(greatest, 0), D: 2}, near(complex(greatest, 0)), near(1)}, // narrow products would be infinite
	}
	for _, c := range cases {
		got, code := impl.ApplyMap(c.m, c.s)
		wantSpot(t, "ApplyMap "+mapBits(c.m)+" to "+spotText(c.s), got, code, c.want, impl.OK)
	}
}

func TestApplyMapInvalid(t *testing.T) {
	for _, m := range invalidMaps() {
		for _, s := range []impl.Spot{near(1), farSpot, invalidSpots()[0]} {
			got, code := impl.ApplyMap(m, s)
			wantSpot(t, "ApplyMap of no map", got, code, impl.Spot{}, impl.ErrInvalid)
			list, code := impl.ApplyAll(m, []impl.Spot{s})
			wantSpots(t, "ApplyAll of no map", list, code, nil, impl.ErrInvalid)
		}
		list, code := impl.ApplyAll(m, nil)
		wantSpots(t, "ApplyAll of no map to no spots", list, code, nil, impl.ErrInvalid)
	}
	for _, s := range invalidSpots() {
		got, code := impl.ApplyMap(impl.FlipMap(), s)
		wantSpot(t, "ApplyMap to no spot", got, code, impl.Spot{}, impl.ErrInvalid)
		for at := range 3 {
			spots := nearAll(1, 2, 3)
			spots[at] = s
			list, code := impl.ApplyAll(impl.FlipMap(), spots)
			wantSpots(t, "ApplyAll to no spot", list, code, nil, impl.ErrInvalid)
		}
	}
}

func TestApplyAll(t *testing.T) {
	random := rand.New(rand.NewSource(111))
	for _, m := range manyMaps(random, 30) {
		for _, n := range []int{0, 1, 2, 17} {
			spots := randomSpots(random, n)
			want := make([]impl.Spot, n)
			for i, s := range spots {
				want[i] = applyForTest(m, s)
			}
			list, code := impl.ApplyAll(m, spots)
			wantSpots(t, "ApplyAll", list, code, want, impl.OK)
		}
	}
	list, code := impl.ApplyAll(impl.FlipMap(), nil)
	wantSpots(t, "ApplyAll to no spots", list, code, nil, impl.OK)
}

func TestApplyAllLimits(t *testing.T) {
	list, code := impl.ApplyAll(impl.FlipMap(), repeatedSpot(near(4), impl.MaxPoints))
	wantSpots(t, "ApplyAll to MaxPoints spots", list, code, repeatedSpot(near(0.25), impl.MaxPoints), impl.OK)
	more := repeatedSpot(near(4), impl.MaxPoints+1)
	list, code = impl.ApplyAll(impl.FlipMap(), more)
	wantSpots(t, "ApplyAll to one spot more", list, code, nil, impl.ErrLimit)
	list, code = impl.ApplyAll(impl.Map{}, more)
	wantSpots(t, "ApplyAll of no map to one spot more", list, code, nil, impl.ErrInvalid)
	more[impl.MaxPoints] = impl.Spot{Far: true, At: 1}
	list, code = impl.ApplyAll(impl.FlipMap(), more)
	wantSpots(t, "ApplyAll to one spot more that is none", list, code, nil, impl.ErrInvalid)
	list, code = impl.ApplyAll(impl.FlipMap(), repeatedSpot(farSpot, 100000))
	wantSpots(t, "ApplyAll to many spots", list, code, nil, impl.ErrLimit)
}

// stretchForTest tells by how much a map stretches at a finite point, and whether this is found.
func stretchForTest(m impl.Map, x complex64) (float32, bool) {
	w := wideParts(m)
	below := w[2].times(widePoint(x)).plus(w[3])
	if below.isZero() {
		return 0, false
	}
	size := wideRoot(determinantForTest(m).squares())
	stretch := narrowOf(wideOver(size, below.squares()))
	if !isFinite(stretch) {
		return 0, false
	}
	return stretch, true
}

func TestStretchAt(t *testing.T) {
	random := rand.New(rand.NewSource(112))
	points := append(finitePoints(edgePoints()), 1, -1, 1i, 2.5-0.5i)
	for _, m := range manyMaps(random, 100) {
		for _, x := range points {
			got, code := impl.StretchAt(m, x)
			want, isFound := stretchForTest(m, x)
			wantCode := int64(impl.ErrState)
			if isFound {
				wantCode = impl.OK
			}
			wantReal(t, "StretchAt "+mapBits(m)+" and "+bitsText(x), got, code, want, wantCode)
		}
	}
}

func narrowOf(x *big.Float) float32 {
	narrow, _ := x.Float32()
	return narrow
}

func TestStretchAtEdges(t *testing.T) {
	cases := []struct {
		m    impl.Map
		x    complex64
		want float32
		code int64
	}{
		{impl.Map{A: 2, D: 1}, 3, 2, impl.OK},
		{impl.Map{A: 2, D: 1}, complex(greatest, greatest), 2, impl.OK},
		{impl.Map{A: 3 + 4i, D: 1}, 1i, 5, impl.OK},
		{impl.FlipMap(), 2i, 0.25, impl.OK},
		{impl.FlipMap(), 0, 0, impl.ErrState},
		{impl.FlipMap(), complex(minusZero, minusZero), 0, impl.ErrState},
		{impl.FlipMap(), complex(least, 0), 0, impl.ErrState},
		{impl.FlipMap(), complex(greatest, 0), 0, impl.OK},
		{impl.Map{A: complex(greatest, 0), D: 0.5}, 0, 0, impl.ErrState},
		{wideDeterminant0(), 1, 0, impl.OK},
		{wideDeterminant0(), complex(0, minus(infinite)), 0, impl.ErrRange},
		{impl.Map{}, complex(notNumber, 0), 0, impl.ErrInvalid},
	}
	for _, c := range cases {
		got, code := impl.StretchAt(c.m, c.x)
		wantReal(t, "StretchAt "+mapBits(c.m)+" and "+bitsText(c.x), got, code, c.want, c.code)
	}
	for _, x := range oddPoints() {
		got, code := impl.StretchAt(impl.FlipMap(), x)
		wantReal(t, "StretchAt "+bitsText(x), got, code, 0, impl.ErrRange)
	}
	for _, m := range invalidMaps() {
		got, code := impl.StretchAt(m, 1)
		wantReal(t, "StretchAt of no map", got, code, 0, impl.ErrInvalid)
	}
}

// A map that stretches by some number takes near points to ones that are by it farther apart.
func TestStretchIsThatOfDistances(t *testing.T) {
	random := rand.New(rand.NewSource(113))
	for range 200 {
		m := wholeMap(random, 4)
		x := complex(float32(random.NormFloat64()), float32(random.NormFloat64()))
		stretch, code := impl.StretchAt(m, x)
		if code != impl.OK || stretch > 8 || stretch < 0.01 {
			continue
		}
		const step = 0x1p-6
		first, _ := impl.ApplyMap(m, near(x-step))
		second, _ := impl.ApplyMap(m, near(x+step))
		grown := float64(impl.DistanceOf(first.At, second.At)) / (2 * step)
		if math.Abs(grown/float64(stretch)-1) > 0.05 {
			t.Errorf("StretchAt %v and %v: got %g, and distances grow by %g", m, x, stretch, grown)
		}
	}
}
