package tests

import (
	"math"
	"math/big"
	"math/rand"
	"testing"

	"loop.example/g01171/impl"
)

func ratioForTest(m impl.Map) (complex64, int64) {
	w, determinant := wideParts(m), determinantForTest(m)
	if determinant.isZero() {
		return 0, impl.ErrState
	}
	trace := w[0].plus(w[3])
	if r := trace.times(trace).over(determinant).narrowed(); isFinitePoint(r) {
		return r, impl.OK
	}
	return 0, impl.ErrState
}

func isIdentityForTest(m impl.Map) bool { return m.B == 0 && m.C == 0 && m.A == m.D }

func kindForTest(m impl.Map) (int64, int64) {
	if isIdentityForTest(m) {
		return impl.MkIdentity, impl.OK
	}
	r, code := ratioForTest(m)
	switch {
	case code != impl.OK:
		return 0, code
	case r == 4:
		return impl.MkParabolic, impl.OK
	case imag(r) == 0 && real(r) >= 0 && real(r) < 4:
		return impl.MkElliptic, impl.OK
	case imag(r) == 0 && real(r) > 4:
		return impl.MkHyperbolic, impl.OK
	}
	return impl.MkLoxodromic, impl.OK
}

func wantKind(t *testing.T, m impl.Map, want, wantCode int64) {
	t.Helper()
	kind, code := impl.MapKind(m)
	if kind != want || code != wantCode {
		t.Errorf("MapKind %s: got %d and %s, want %d and %s", mapBits(m), kind, impl.CodeName(code), want, impl.CodeName(wantCode))
	}
}

func TestRatiosAndKinds(t *testing.T) {
	random := rand.New(rand.NewSource(130))
	kinds := map[int64]int{}
	list := manyMaps(random, 2000)
	for range 2000 {
		list = append(list, wholeMap(random, 2))
	}
	for range 500 {
		r := func() complex64 { return complex(float32(random.Intn(7)-3), 0) }
		m := impl.Map{A: r(), B: r(), C: r(), D: r()}
		if isValidForTest(m) {
			list = append(list, m)
		}
	}
	for _, m := range list {
		r, code := impl.RatioOf(m)
		want, wantCode := ratioForTest(m)
		wantPoint(t, "RatioOf "+mapBits(m), r, code, want, wantCode)
		kind, kindCode := kindForTest(m)
		wantKind(t, m, kind, kindCode)
		kinds[kind]++
	}
	for kind := int64(0); kind <= impl.MkLoxodromic; kind++ {
		if kinds[kind] == 0 {
			t.Errorf("no map of the kind %d was tried", kind)
		}
	}
}

func TestRatioEdges(t *testing.T) {
	cases := []struct {
		m    impl.Map
		want complex64
		code int64
	}{
		{impl.Map{A: 1, B: 1, D: 1}, 4, impl.OK},
		{impl.Map{A: 2, D: 1}, 4.5, impl.OK},
		{impl.Map{A: 1i, D: 1}, 2, impl.OK},
		{impl.Map{A: 1i, D: 1i}, 4, impl.OK},
		{impl.FlipMap(), complex(0, minusZero), impl.OK},
		{impl.Map{A: -2, D: 1}, complex(-0.5, minusZero), impl.OK},
		{impl.Map{A: 1 + 1i, D: 1}, 3.5 + 0.5i, impl.OK},
		{impl.Map{A: complex(least, 0), D: complex(least, 0)}, 4, impl.OK},
		{impl.Map{A: complex(greatest, 0), D: complex(greatest, 0)}, 4, impl.OK},
		{impl.Map{A: 0x1p120, D: 0x1p-7}, 0x1p127, impl.OK},
		{impl.Map{A: 0x1p120, D: 0x1p-8}, 0, impl.ErrState},                                       // the ratio overflows
		{impl.Map{A: 1, B: complex(0, 0x1p-70), C: 0x1p-70, D: 1}, complex(4, 0x1p-138), impl.OK}, // with a subnormal part
		{wideDeterminant0(), 0, impl.ErrState},
		{impl.Map{}, 0, impl.ErrInvalid},
	}
	for _, c := range cases {
		r, code := impl.RatioOf(c.m)
		if c.code == impl.OK && real(r) == real(c.want) && imag(r) == 0 && imag(c.want) == 0 {
			c.want = r // the signs of zeros are held against math/big above
		}
		wantPoint(t, "RatioOf "+mapBits(c.m), r, code, c.want, c.code)
	}
	for _, m := range invalidMaps() {
		r, code := impl.RatioOf(m)
		wantPoint(t, "RatioOf no map", r, code, 0, impl.ErrInvalid)
		wantKind(t, m, 0, impl.ErrInvalid)
	}
}

func TestKindEdges(t *testing.T) {
	z := complex(minusZero, minusZero)
	cases := []struct {
		m          impl.Map
		kind, code int64
	}{
		{impl.Map{A: 1, D: 1}, impl.MkIdentity, impl.OK},
		{impl.Map{A: -2i, B: z, C: z, D: -2i}, impl.MkIdentity, impl.OK},
		{impl.Map{A: complex(0, 1), D: complex(minusZero, 1)}, impl.MkIdentity, impl.OK},
		{impl.Map{A: complex(greatest, 0), D: complex(greatest, 0)}, impl.MkIdentity, impl.OK},
		{impl.Map{A: 1, B: complex(least, 0), D: 1}, impl.MkParabolic, impl.OK},
		{impl.Map{A: 1, C: complex(0, minus(least)), D: 1}, impl.MkParabolic, impl.OK},
		{impl.Map{A: 1, B: complex(0, least), C: z, D: 1}, impl.MkParabolic, impl.OK},
		{impl.Map{A: -1, B: 5, D: -1}, impl.MkParabolic, impl.OK},
		{impl.Map{A: 3, B: -4, C: 1, D: -1}, impl.MkParabolic, impl.OK},
		{impl.Map{A: 1, D: 1 + 0x1p-23}, impl.MkParabolic, impl.OK}, // the ratio is rounded to 4
		{impl.Map{A: 1i, D: 1}, impl.MkElliptic, impl.OK},
		{impl.Map{A: 1, D: -1}, impl.MkElliptic, impl.OK},
		{impl.FlipMap(), impl.MkElliptic, impl.OK}, // with the ratio 0
		{impl.Map{A: z, B: -1, C: 1, D: z}, impl.MkElliptic, impl.OK},
		{impl.Map{A: 1, B: -1, C: 1}, impl.MkElliptic, impl.OK},
		{impl.Map{A: 2, D: 1}, impl.MkHyperbolic, impl.OK},
		{impl.Map{A: -2, D: -1}, impl.MkHyperbolic, impl.OK},
		{impl.Map{A: 2, B: 1, C: 1, D: 1}, impl.MkHyperbolic, impl.OK},
		{impl.Map{A: 1, D: 1 + 0x1p-10}, impl.MkHyperbolic, impl.OK},
		{impl.Map{A: -2, D: 1}, impl.MkLoxodromic, impl.OK}, // with a ratio below 0
		{impl.Map{A: 1, B: 1, C: 1}, impl.MkLoxodromic, impl.OK},
		{impl.Map{A: 1 + 1i, D: 1}, impl.MkLoxodromic, impl.OK},
		{impl.Map{A: 1, B: complex(0, 0x1p-70), C: 0x1p-70, D: 1}, impl.MkLoxodromic, impl.OK},
		{impl.Map{A: 1, B: 1, C: complex(0, 0.5), D: 1}, impl.MkLoxodromic, impl.OK},
		{impl.Map{A: 0x1p120, D: 0x1p-8}, 0, impl.ErrState},
		{wideDeterminant0(), 0, impl.ErrState},
	}
	for _, c := range cases {
		wantKind(t, c.m, c.kind, c.code)
	}
}

// rootForTest tells the root of a wide number.
func rootForTest(x wideNumber) wideNumber {
	if x.isZero() {
		return widePoint(0)
	}
	two := wideOf(2)
	abs := func(a *big.Float) *big.Float { return new(big.Float).Abs(a) }
	p := wideRoot(wideOver(widePlus(wideRoot(x.squares()), abs(x.a)), two))
	if x.a.Sign() >= 0 {
		return wideNumber{p, wideOver(x.b, wideTimes(two, p))}
	}
	across := wideOver(abs(x.b), wideTimes(two, p))
	if x.b.Sign() < 0 {
		return wideNumber{across, new(big.Float).Neg(p)}
	}
	return wideNumber{across, p}
}

func TestRootOfPoint(t *testing.T) {
	random := rand.New(rand.NewSource(131))
	for _, x := range append(finitePoints(edgePoints()), randomFinitePoints(random, 3000)...) {
		got := impl.RootOfPoint(x)
		wantPoint(t, "RootOfPoint "+bitsText(x), got, 0, rootForTest(widePoint(x)).narrowed(), 0)
		if size := float64(impl.SizeOf(x)); size > 1e-30 && size < 1e30 {
			square := complex128(got) * complex128(got)
			difference := square - complex128(x)
			if math.Hypot(real(difference), imag(difference)) > size*1e-6 || real(got) < 0 {
				t.Errorf("RootOfPoint %g: got %g", x, got)
			}
		}
	}
}

func TestRootOfPointEdges(t *testing.T) {
	none := complex(notNumber, notNumber)
	cases := []struct{ x, want complex64 }{
		{-4, 2i}, {3 + 4i, 2 + 1i}, {3 - 4i, 2 - 1i}, {-3 + 4i, 1 + 2i}, {-3 - 4i, 1 - 2i}, {2i, 1 + 1i}, {-2i, 1 - 1i}, {9, 3}, {0, 0},
		{complex(minusZero, minusZero), 0}, {complex(minusZero, 0), 0}, {complex(0, minusZero), 0},
		{complex(4, minusZero), complex(2, minusZero)}, {complex(-4, minusZero), 2i}, // -0 is not less than 0
		{complex(minusZero, 2), 1 + 1i}, {complex(minusZero, -2), 1 - 1i},
		{complex(0x1p-148, 0), complex(0x1p-74, 0)}, {complex(-0x1p-148, 0), complex(0, 0x1p-74)}, {complex(0x1p126, 0), complex(0x1p63, 0)},
		{complex(0, least), complex(0x1p-75, 0x1p-75)}, {complex(1, least), complex(1, 0)}, {complex(1, 2*least), complex(1, least)},
		{complex(infinite, 1), complex(infinite, 0)}, {complex(infinite, -1), complex(infinite, minusZero)},
		{complex(minus(infinite), 1), complex(0, infinite)}, {complex(minus(infinite), -1), complex(0, minus(infinite))}, {complex(minus(infinite), minusZero), complex(0, infinite)},
		{complex(0, infinite), complex(infinite, notNumber)}, {complex(-1, infinite), complex(notNumber, infinite)}, {complex(-1, minus(infinite)), complex(notNumber, minus(infinite))},
		{complex(minusZero, infinite), complex(infinite, notNumber)}, {complex(minusZero, minus(infinite)), complex(infinite, notNumber)}, // -0 is at least 0
		{complex(infinite, infinite), complex(infinite, notNumber)}, {complex(minus(infinite), infinite), complex(notNumber, infinite)},
		{complex(notNumber, 0), none}, {complex(0, notNumber), none}, {complex(infinite, notNumber), none}, {complex(notNumber, minus(infinite)), none}, {none, none},
	}
	for _, c := range cases {
		wantPoint(t, "RootOfPoint "+bitsText(c.x), impl.RootOfPoint(c.x), 0, c.want, 0)
	}
}

func fixedForTest(m impl.Map) ([]impl.Spot, int64) {
	if isIdentityForTest(m) {
		return nil, impl.ErrState
	}
	w := wideParts(m)
	var points []complex64
	if m.C == 0 && m.A != m.D {
		points = append(points, w[1].over(w[3].minus(w[0])).narrowed())
	}
	if m.C != 0 {
		down := w[3].minus(w[0])
		s := rootForTest(down.times(down).plus(widePoint(4).times(w[1].times(w[2]))))
		twice := widePoint(2).times(w[2])
		points = append(points, w[0].minus(w[3]).plus(s).over(twice).narrowed())
		if !s.isZero() {
			points = append(points, w[0].minus(w[3]).minus(s).over(twice).narrowed())
		}
	}
	if len(finitePoints(points)) < len(points) {
		return nil, impl.ErrState
	}
	spots := nearAll(points...)
	if m.C == 0 {
		spots = append(spots, farSpot)
	}
	return spots, impl.OK
}

func TestFixedSpots(t *testing.T) {
	random := rand.New(rand.NewSource(132))
	lengths, codes := map[int]int{}, map[int64]int{}
	list := manyMaps(random, 2000)
	for range 1000 {
		list = append(list, wholeMap(random, 1), wholeMap(random, 2))
	}
	for range 1000 {
		// Real maps with zeros of both signs tell how signs of zeros come out.
		var reals [8]float32
		for i := range reals {
			choice := []float32{0, minusZero, 1, -1, 2}
			if i%2 != 0 {
				choice = choice[:2]
			}
			reals[i] = choice[random.Intn(len(choice))]
		}
		if m := mapOfReals(reals); isValidForTest(m) {
			list = append(list, m)
		}
	}
	for _, m := range list {
		spots, code := impl.FixedSpots(m)
		want, wantCode := fixedForTest(m)
		wantSpots(t, "FixedSpots "+mapBits(m), spots, code, want, wantCode)
		lengths[len(spots)]++
		codes[code]++
	}
	if lengths[1] == 0 || lengths[2] == 0 || codes[impl.ErrState] == 0 {
		t.Errorf("lengths %v, codes %v", lengths, codes)
	}
}

func TestFixedSpotsEdges(t *testing.T) {
	z := complex(minusZero, minusZero)
	cases := []struct {
		m    impl.Map
		want []impl.Spot
		code int64
	}{
		{impl.Map{A: 2, D: 1}, []impl.Spot{near(complex(minusZero, 0)), farSpot}, impl.OK},
		{impl.Map{A: 2, B: 3, D: 1}, []impl.Spot{near(complex(-3, minusZero)), farSpot}, impl.OK},
		{impl.Map{A: 1, B: 3, C: z, D: 2}, []impl.Spot{near(3), farSpot}, impl.OK},
		{impl.Map{A: 1, B: 3, D: 1}, []impl.Spot{farSpot}, impl.OK},
		{impl.Map{A: 1, B: 3, C: z, D: 1}, []impl.Spot{farSpot}, impl.OK},
		{impl.Map{A: 1, B: complex(greatest, 0), D: 1.5}, nil, impl.ErrState}, // the only point overflows
		{impl.Map{A: complex(least, 0), B: 1, D: complex(2*least, 0)}, nil, impl.ErrState},
		{impl.FlipMap(), nearAll(1, -1), impl.OK},
		{impl.Map{B: -1, C: 1}, nearAll(1i, -1i), impl.OK},
		{impl.Map{B: 1, C: -1}, nearAll(-1i, 1i), impl.OK},
		{impl.Map{A: 1, C: 1, D: 1}, nearAll(0), impl.OK},
		{impl.Map{A: 3, B: -4, C: 1, D: -1}, nearAll(2), impl.OK},
		{impl.Map{A: 3, B: -4, C: 1, D: 8}, nearAll(complex(-1, 0), complex(-4, 0)), impl.OK},
		{impl.Map{A: 1, B: 1, C: complex(least, 0), D: 3}, nil, impl.ErrState},
		{impl.Map{A: 4, B: complex(0, 0), C: complex(least, 0), D: 3}, nil, impl.ErrState}, // the first one overflows
		{impl.Map{A: 3, B: complex(0, 0), C: complex(least, 0), D: 4}, nil, impl.ErrState}, // the second one does
		{impl.Map{A: complex(greatest, 0), B: complex(greatest, 0), C: complex(greatest, 0), D: complex(minus(greatest), 0)}, nearAll(2.4142137, -0.41421357), impl.OK},
		{impl.IdentityMap(), nil, impl.ErrState},
		{impl.Map{A: 2i, B: z, C: z, D: 2i}, nil, impl.ErrState},
		{impl.Map{}, nil, impl.ErrInvalid},
	}
	for _, c := range cases {
		spots, code := impl.FixedSpots(c.m)
		for i := range min(len(spots), len(c.want)) {
			if spots[i] == c.want[i] {
				c.want[i] = spots[i] // the signs of zeros are held against math/big above
			}
		}
		wantSpots(t, "FixedSpots "+mapBits(c.m), spots, code, c.want, c.code)
	}
	for _, m := range invalidMaps() {
		spots, code := impl.FixedSpots(m)
		wantSpots(t, "FixedSpots of no map", spots, code, nil, impl.ErrInvalid)
	}
}

func TestFixedSpotsStay(t *testing.T) {
	random := rand.New(rand.NewSource(133))
	for range 1000 {
		m := wholeMap(random, 5)
		spots, _ := impl.FixedSpots(m)
		for _, s := range spots {
			taken, _ := impl.ApplyMap(m, s)
			// Where both fixed spots are nearly one, roundings move them by about the root of a unit.
			if taken.Far != s.Far || !isClose(taken.At, s.At, 1e-2) {
				t.Errorf("%v takes %v to %v", m, s, taken)
			}
		}
	}
}
