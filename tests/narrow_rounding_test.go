package tests

import (
	"math"
	"math/big"
	"math/rand"
	"testing"

	"loop.example/g01171/impl"
)

// wideSamples returns wide numbers: narrow ones, what lies just beside and between them, and random bits.
func wideSamples() []float64 {
	list := []float64{0, math.Copysign(0, -1), math.Inf(1), math.Inf(-1), math.NaN(), 0.1, -0.1, 1e-60, -1e-60, 1e60, -1e60,
		5e-324, -5e-324, math.MaxFloat64, -math.MaxFloat64, 0x1p-150, -0x1p-150, 0x1.8p-149, -0x1.8p-149, 0x1.fffffefp127, 0x1.ffffffp127, 0x1p128, -0x1p128}
	for _, a := range finiteReals() {
		wide := float64(a)
		middle := (wide + float64(math.Nextafter32(a, infinite))) / 2
		list = append(list, wide, math.Nextafter(wide, math.Inf(1)), math.Nextafter(wide, math.Inf(-1)),
			middle, math.Nextafter(middle, math.Inf(1)), math.Nextafter(middle, math.Inf(-1)))
	}
	random := rand.New(rand.NewSource(3))
	for range 3000 {
		list = append(list, math.Float64frombits(random.Uint64()))
	}
	return list
}

func TestDirectedRoundingsEnclose(t *testing.T) {
	for _, x := range wideSamples() {
		down, up := impl.RoundDown(x), impl.RoundUp(x)
		if math.IsNaN(x) {
			if !isNaN(down) || !isNaN(up) {
				t.Errorf("NaN is rounded to %g and %g", down, up)
			}
			continue
		}
		if float64(float32(x)) == x {
			wantReal(t, "a narrow number rounded down", down, 0, float32(x), 0)
			wantReal(t, "a narrow number rounded up", up, 0, float32(x), 0)
			continue
		}
		if !(float64(down) < x && x < float64(up)) {
			t.Errorf("%g is not between %g and %g", x, down, up)
		}
		if math.Nextafter32(down, infinite) != up {
			t.Errorf("%g: %g and %g are not neighbours", x, down, up)
		}
	}
}

func TestDirectedRoundingsNearTheEnds(t *testing.T) {
	cases := []struct {
		x        float64
		down, up float32
	}{
		{0, 0, 0},
		{math.Copysign(0, -1), minusZero, minusZero},
		{1e-60, 0, least},
		{-1e-60, minus(least), minusZero},
		{5e-324, 0, least},
		{0x1.8p-150, 0, least}, // nearer to the least number than to 0
		{-0x1.8p-150, minus(least), minusZero},
		{0x1p-150, 0, least},
		{0x1.8p-149, least, 2 * least},
		{-0x1.8p-149, -2 * least, minus(least)},
		{1e60, greatest, infinite},
		{-1e60, minus(infinite), minus(greatest)},
		{0x1.fffffefp127, greatest, infinite},
		{-0x1.fffffefp127, minus(infinite), minus(greatest)},
		{math.MaxFloat32, greatest, greatest},
		{math.Inf(1), infinite, infinite},
		{math.Inf(-1), minus(infinite), minus(infinite)},
		{math.NaN(), notNumber, notNumber},
		{1, 1, 1},
		{1 + 0x1p-40, 1, ofBits(0x3f800001)},
		{-1 - 0x1p-40, ofBits(0xbf800001), -1},
	}
	for _, c := range cases {
		wantReal(t, "RoundDown", impl.RoundDown(c.x), 0, c.down, 0)
		wantReal(t, "RoundUp", impl.RoundUp(c.x), 0, c.up, 0)
	}
}

func TestRootOf(t *testing.T) {
	for _, a := range manyReals() {
		if !(a > 0) || isInf(a) {
			continue
		}
		root := new(big.Float).SetPrec(300).Sqrt(exactly(a))
		wantReal(t, "RootOf", impl.RootOf(a), 0, roundedOnce(root), 0)
	}
	known := []struct{ a, root float32 }{
		{0, 0}, {minusZero, minusZero}, {1, 1}, {9, 3}, {0.25, 0.5}, {2, 1.4142135}, {2 * least, 0x1p-74},
		{infinite, infinite}, {minus(infinite), notNumber}, {-1, notNumber}, {minus(least), notNumber}, {notNumber, notNumber},
	}
	for _, k := range known {
		wantReal(t, "RootOf", impl.RootOf(k.a), 0, k.root, 0)
	}
}
