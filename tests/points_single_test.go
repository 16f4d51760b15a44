package tests

import (
	"math"
	"math/big"
	"math/rand"
	"testing"

	"loop.example/g01171/impl"
)

func TestPointConstants(t *testing.T) {
	wantNumber(t, "MaxPoints", impl.MaxPoints, 256)
	wantNumber(t, "MaxCell", impl.MaxCell, 1073741824)
}

func TestIsFinitePoint(t *testing.T) {
	for _, a := range edgeReals() {
		for _, b := range edgeReals() {
			if got := impl.IsFinitePoint(complex(a, b)); got != (isFinite(a) && isFinite(b)) {
				t.Errorf("IsFinitePoint(%08x, %08x): got %t", bitsOf(a), bitsOf(b), got)
			}
		}
	}
}

func TestSameAndEqualPoints(t *testing.T) {
	for _, x := range edgePoints() {
		for _, y := range edgePoints() {
			wantSame := bitsText(x) == bitsText(y)
			wantEqual := real(x) == real(y) && imag(x) == imag(y)
			wantBool(t, "SamePoint "+bitsText(x)+" and "+bitsText(y), impl.SamePoint(x, y), 0, wantSame, 0)
			wantBool(t, "AreEqualPoints "+bitsText(x)+" and "+bitsText(y), impl.AreEqualPoints(x, y), 0, wantEqual, 0)
		}
	}
	otherNaN := complex(ofBits(0xffc00123), float32(1))
	wantBool(t, "NaNs of other bits", impl.SamePoint(complex(notNumber, 1), otherNaN), 0, true, 0)
	wantBool(t, "a NaN and itself", impl.AreEqualPoints(otherNaN, otherNaN), 0, false, 0)
	wantBool(t, "0 and -0", impl.SamePoint(complex(0, 0), complex(minusZero, 0)), 0, false, 0)
	wantBool(t, "0 and -0i", impl.AreEqualPoints(complex(0, 0), complex(0, minusZero)), 0, true, 0)
}

// narrowSum rounds the exact sum of two products, each of which is rounded first.
func narrowSum(a, b, c, d float32, isDifference bool) float32 {
	// Wide products and sums of narrow numbers have room for a rounding that changes nothing.
	first, second := float32(float64(a)*float64(b)), float32(float64(c)*float64(d))
	if isDifference {
		return float32(float64(first) - float64(second))
	}
	return float32(float64(first) + float64(second))
}

func TestPointProduct(t *testing.T) {
	for _, x := range edgePoints() {
		for _, y := range edgePoints() {
			a, b, c, d := real(x), imag(x), real(y), imag(y)
			want := complex(narrowSum(a, c, b, d, true), narrowSum(a, d, b, c, false))
			wantPoint(t, "PointProduct "+bitsText(x)+" and "+bitsText(y), impl.PointProduct(x, y), 0, want, 0)
		}
	}
	cases := []struct{ x, y, want complex64 }{
		{1 + 2i, 3 + 4i, -5 + 10i},
		{0.5 - 1i, 2i, 2 + 1i},
		{complex(least, 0), complex(0.5, 0.75), complex(0, least)}, // rounded to 0 and to the least number
		{complex(greatest, 0), complex(2, -2), complex(infinite, minus(infinite))},
		{complex(infinite, 0), complex(1, 1), complex(infinite, infinite)},
		{complex(infinite, 1), complex(0, 1), complex(notNumber, infinite)},
		{complex(minusZero, 0), complex(1, 0), complex(minusZero, 0)},
		{complex(minusZero, minusZero), complex(1, 0), complex(0, minusZero)},
		{complex(minusZero, minusZero), complex(1, 1), complex(0, minusZero)},
	}
	for _, c := range cases {
		wantPoint(t, "PointProduct", impl.PointProduct(c.x, c.y), 0, c.want, 0)
	}
}

// Where a product that is rounded is taken from the same one, a fused sum would leave the rest of its rounding.
func TestProductsAreRoundedFirst(t *testing.T) {
	random := rand.New(rand.NewSource(20))
	for range 1000 {
		a, c := 1+random.Float32(), 1+random.Float32()
		rounded := float32(float64(a) * float64(c))
		got := impl.PointProduct(complex(a, 1), complex(c, rounded))
		wantReal(t, "product less itself", real(got), 0, 0, 0)
		got = impl.PointProduct(complex(a, 1), complex(minus(rounded), c))
		wantReal(t, "product and its opposite", imag(got), 0, narrowSum(a, c, 1, minus(rounded), false), 0)
		exact := impl.ExactProduct(complex(a, 1), complex(c, rounded))
		rest := float64(a)*float64(c) - float64(rounded)
		wantReal(t, "exact product less the rounded one", real(exact), 0, float32(rest)+0, 0)
	}
}

func TestExactProduct(t *testing.T) {
	for _, x := range edgePoints() {
		for _, y := range edgePoints() {
			first := []float32{real(x), imag(x)}
			across, _ := exactDot(first, []float32{real(y), minus(imag(y))})
			up, _ := exactDot(first, []float32{imag(y), real(y)})
			wantPoint(t, "ExactProduct "+bitsText(x)+" and "+bitsText(y), impl.ExactProduct(x, y), 0, complex(across, up), 0)
		}
	}
	cases := []struct{ x, y, want complex64 }{
		{1 + 2i, 3 + 4i, -5 + 10i},
		{complex(minusZero, minusZero), complex(1, 1), 0}, // never -0
		{complex(greatest, greatest), complex(2, 1), complex(greatest, infinite)},
		{complex(least, minus(least)), complex(0.5, 0), complex(0, minusZero)}, // rounded to zeros of their signs
		{complex(least, least), complex(0.5, 0.5), complex(0, least)},
		{complex(infinite, 1), complex(0, 1), complex(notNumber, infinite)},
		{complex(notNumber, 0), complex(0, 0), complex(notNumber, notNumber)},
	}
	for _, c := range cases {
		wantPoint(t, "ExactProduct", impl.ExactProduct(c.x, c.y), 0, c.want, 0)
	}
}

// quotientForTest tells the quotient of finite points, the second of which is not 0.
func quotientForTest(x, y complex64) complex64 {
	a, b, c, d := wideOf(real(x)), wideOf(imag(x)), wideOf(real(y)), wideOf(imag(y))
	s := widePlus(wideTimes(c, c), wideTimes(d, d))
	part := func(z *big.Float) float32 {
		narrow, _ := new(big.Float).SetPrec(wideBits).Quo(z, s).Float32()
		return narrow
	}
	across := part(widePlus(wideTimes(a, c), wideTimes(b, d)))
	return complex(across, part(wideMinus(wideTimes(b, c), wideTimes(a, d))))
}

func TestPointQuotient(t *testing.T) {
	list := finitePoints(edgePoints())
	random := rand.New(rand.NewSource(21))
	list = append(list, randomFinitePoints(random, 100)...)
	for _, x := range list {
		for _, y := range list {
			if y != 0 {
				wantPoint(t, "PointQuotient "+bitsText(x)+" and "+bitsText(y), impl.PointQuotient(x, y), 0, quotientForTest(x, y), 0)
			}
		}
	}
}

func TestPointQuotientEdges(t *testing.T) {
	none := complex(notNumber, notNumber)
	cases := []struct{ x, y, want complex64 }{
		{-5 + 10i, 1 + 2i, 3 + 4i},
		{1, 3, complex(float32(1.0/3), 0)},
		{complex(least, least), complex(least, least), 1},
		{complex(greatest, greatest), complex(greatest, greatest), 1}, // narrow squares would be infinite
		{1, complex(least, 0), complex(infinite, 0)},
		{complex(least, 0), 2, complex(0, 0)},
		{complex(3*least, 0), 2, complex(2*least, 0)},
		{1 + 1i, 0, none},
		{0, 0, none},
		{complex(infinite, 0), 2, complex(infinite, notNumber)},
		{complex(infinite, infinite), 1 + 1i, complex(infinite, notNumber)},
		{1 + 1i, complex(infinite, 0), none},
		{1, complex(notNumber, 0), none},
		{complex(0, notNumber), 1, none},
	}
	for _, c := range cases {
		wantPoint(t, "PointQuotient "+bitsText(c.x)+" and "+bitsText(c.y), impl.PointQuotient(c.x, c.y), 0, c.want, 0)
	}
}

func TestMirrorPoint(t *testing.T) {
	for _, x := range edgePoints() {
		got := impl.MirrorPoint(x)
		wantPoint(t, "MirrorPoint "+bitsText(x), got, 0, complex(real(x), minus(imag(x))), 0)
		wantPoint(t, "mirrored there and back", impl.MirrorPoint(got), 0, x, 0)
	}
	wantPoint(t, "MirrorPoint 0", impl.MirrorPoint(0), 0, complex(0, minusZero), 0)
}

func TestTurnPoint(t *testing.T) {
	for _, x := range edgePoints() {
		a, b := real(x), imag(x)
		turned := []complex64{x, complex(minus(b), a), complex(minus(a), minus(b)), complex(b, minus(a))}
		for quarters := int64(-9); quarters <= 9; quarters++ {
			wantPoint(t, "TurnPoint", impl.TurnPoint(x, quarters), 0, turned[(quarters+12)%4], 0)
		}
	}
	great := []struct {
		quarters int64
		want     complex64
	}{
		{math.MaxInt64, 2 - 1i}, {math.MaxInt64 - 1, -1 - 2i}, {math.MinInt64, 1 + 2i}, {math.MinInt64 + 1, -2 + 1i},
		{1 << 40, 1 + 2i}, {1<<40 + 1, -2 + 1i}, {-1<<40 - 1, 2 - 1i}, {-1, 2 - 1i}, {-2, -1 - 2i}, {-3, -2 + 1i}, {-4, 1 + 2i},
	}
	for _, g := range great {
		wantPoint(t, "TurnPoint by many quarters", impl.TurnPoint(1+2i, g.quarters), 0, g.want, 0)
	}
}

func TestSizesAndDistances(t *testing.T) {
	list := finitePoints(edgePoints())
	random := rand.New(rand.NewSource(22))
	list = append(list, randomFinitePoints(random, 100)...)
	for _, x := range list {
		wantReal(t, "SizeOf "+bitsText(x), impl.SizeOf(x), 0, root(squaredDistance(x, 0)), 0)
		for _, y := range list {
			wantReal(t, "DistanceOf "+bitsText(x)+" and "+bitsText(y), impl.DistanceOf(x, y), 0, root(squaredDistance(x, y)), 0)
		}
	}
}

func TestSizeAndDistanceEdges(t *testing.T) {
	sizes := []struct {
		x    complex64
		want float32
	}{
		{3 + 4i, 5}, {complex(minusZero, minusZero), 0}, {complex(least, 0), least}, {complex(0, minus(least)), least},
		{complex(3*least, 4*least), 5 * least}, {complex(least, least), least}, {complex(greatest, 0), greatest},
		{complex(greatest, greatest), infinite}, {complex(1e30, 1e30), 1.4142135e30},
		{complex(minus(infinite), 1), infinite}, {complex(0, infinite), infinite},
		{complex(infinite, notNumber), notNumber}, {complex(notNumber, 0), notNumber},
	}
	for _, s := range sizes {
		wantReal(t, "SizeOf "+bitsText(s.x), impl.SizeOf(s.x), 0, s.want, 0)
	}
	distances := []struct {
		x, y complex64
		want float32
	}{
		{1, 4 + 4i, 5}, {complex(greatest, 0), complex(minus(greatest), 0), infinite}, {complex(0, minusZero), complex(minusZero, 0), 0},
		{complex(2*least, 0), complex(least, 0), least}, {16777216, 16777216i, 23726566},
		{complex(infinite, 0), complex(infinite, 0), notNumber}, {complex(infinite, 0), complex(minus(infinite), 0), infinite},
		{complex(infinite, 0), 1, infinite}, {1, complex(0, notNumber), notNumber},
	}
	for _, d := range distances {
		wantReal(t, "DistanceOf "+bitsText(d.x)+" and "+bitsText(d.y), impl.DistanceOf(d.x, d.y), 0, d.want, 0)
		wantReal(t, "DistanceOf, exchanged", impl.DistanceOf(d.y, d.x), 0, d.want, 0)
	}
}
