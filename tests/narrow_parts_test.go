package tests

import (
	"math"
	"math/big"
	"math/rand"
	"testing"

	"loop.example/g01171/impl"
)

func TestCodesAndKindsAreNumbered(t *testing.T) {
	codes := []int64{impl.OK, impl.ErrInvalid, impl.ErrRange, impl.ErrLimit, impl.ErrState, impl.ErrSyntax, impl.ErrNotFound, impl.ErrBudget, impl.ErrProof}
	names := []string{"ok", "invalid", "range", "limit", "state", "syntax", "notfound", "budget", "proof"}
	for i, code := range codes {
		wantNumber(t, names[i], code, int64(i))
		if got := impl.CodeName(code); got != names[i] {
			t.Errorf("CodeName(%d): got %q, want %q", code, got, names[i])
		}
	}
	for _, code := range []int64{-1, 9, 10, 256, 1 << 32, math.MaxInt64, math.MinInt64} {
		if got := impl.CodeName(code); got != "" {
			t.Errorf("CodeName(%d): got %q, want no name", code, got)
		}
	}
	kinds := []int64{impl.KdZero, impl.KdSubnormal, impl.KdNormal, impl.KdInfinite, impl.KdNaN}
	for i, kind := range kinds {
		wantNumber(t, "kind", kind, int64(i))
	}
	wantNumber(t, "MaxList", impl.MaxList, 256)
}

func TestKindOf(t *testing.T) {
	for _, a := range manyReals() {
		size := math.Abs(float64(a))
		want := int64(impl.KdNormal)
		switch {
		case isNaN(a):
			want = impl.KdNaN
		case isInf(a):
			want = impl.KdInfinite
		case size == 0:
			want = impl.KdZero
		case size < 0x1p-126:
			want = impl.KdSubnormal
		}
		if got := impl.KindOf(a); got != want {
			t.Errorf("KindOf(%08x): got %d, want %d", bitsOf(a), got, want)
		}
	}
}

func TestSameReal(t *testing.T) {
	for _, a := range edgeReals() {
		for _, b := range edgeReals() {
			want := isNaN(a) && isNaN(b) || a == b && math.Signbit(float64(a)) == math.Signbit(float64(b))
			if got := impl.SameReal(a, b); got != want {
				t.Errorf("SameReal(%08x, %08x): got %t", bitsOf(a), bitsOf(b), got)
			}
		}
	}
}

func TestSplitReal(t *testing.T) {
	for _, a := range manyReals() {
		negative, fraction, exponent, code := impl.SplitReal(a)
		if !isFinite(a) {
			if negative || fraction != 0 || exponent != 0 || code != impl.ErrRange {
				t.Errorf("SplitReal(%08x): got %t %d %d %d", bitsOf(a), negative, fraction, exponent, code)
			}
			continue
		}
		size := exactly(a)
		size.Abs(size)
		isRight := code == impl.OK && negative == math.Signbit(float64(a)) && exactlyParts(fraction, exponent).Cmp(size) == 0
		if impl.KindOf(a) == impl.KdNormal {
			isRight = isRight && fraction >= 1<<23 && fraction < 1<<24
		} else {
			isRight = isRight && fraction >= 0 && fraction < 1<<23 && exponent == -149
		}
		if !isRight {
			t.Errorf("SplitReal(%08x): got %t %d %d %d", bitsOf(a), negative, fraction, exponent, code)
		}
	}
}

func TestNumbersAreFoundAgainByParts(t *testing.T) {
	for _, a := range finiteReals() {
		negative, fraction, exponent, _ := impl.SplitReal(a)
		joined, code := impl.JoinReal(negative, fraction, exponent)
		wantReal(t, "joined parts", joined, code, a, impl.OK)
	}
}

func wantJoined(t *testing.T, fraction, exponent int64) {
	t.Helper()
	want := roundedOnce(exactlyParts(fraction, exponent))
	above, codeAbove := impl.JoinReal(false, fraction, exponent)
	below, codeBelow := impl.JoinReal(true, fraction, exponent)
	wantReal(t, "JoinReal", above, codeAbove, want, impl.OK)
	wantReal(t, "JoinReal, negative", below, codeBelow, minus(want), impl.OK)
}

func TestJoinRealRoundsOnce(t *testing.T) {
	fractions := []int64{0, 1, 2, 3, 5, 1<<23 - 1, 1 << 23, 1<<24 - 1, 1 << 24, 1<<24 + 1, 1<<24 + 2, 1<<24 + 3,
		1<<25 - 1, 1<<25 + 2, 1<<25 + 6, 1<<26 - 3, 1<<26 - 2, 1<<26 - 1, 1<<52 - 1, 1<<52 + 1<<28, 3<<50 - 1, 3 << 50, 3<<50 + 1,
		5<<49 - 1, 5 << 49, 5<<49 + 1, 1<<53 - 1<<28, 1<<53 - 1<<28 - 1, 1<<53 - 1, 1 << 53}
	random := rand.New(rand.NewSource(2))
	for range 100 {
		fractions = append(fractions, random.Int63n(1<<53+1)>>random.Intn(53))
	}
	for _, fraction := range fractions {
		for exponent := int64(-400); exponent <= 400; exponent++ {
			wantJoined(t, fraction, exponent)
		}
	}
}

func TestJoinRealNearTies(t *testing.T) {
	cases := []struct {
		fraction, exponent int64
		want               float32
	}{
		{1, -149, least},
		{1, -150, 0},
		{1<<52 + 1, -202, least},
		{3, -150, 2 * least},
		{3<<50 - 1, -200, least}, // rounded to 24 bits first, it would be a tie
		{5<<50 + 1, -201, least},
		{1<<24 - 1, -150, leastNormal},
		{1<<25 - 3, -151, ofBits(0x007fffff)},
		{1<<24 + 1, 0, 1 << 24},
		{1<<24 + 3, 0, 1<<24 + 4},
		{1<<24 - 1, 104, greatest},
		{1<<25 - 1, 103, infinite},
		{1<<53 - 1<<28 - 1, 75, greatest},
		{1<<53 - 1<<28, 75, infinite},
		{1, 127, 0x1p127},
		{1, 128, infinite},
		{1, 400, infinite},
		{1 << 53, 400, infinite},
		{1 << 53, -400, 0},
		{1 << 53, -202, least},
		{0, 400, 0},
		{0, -400, 0},
	}
	for _, c := range cases {
		above, codeAbove := impl.JoinReal(false, c.fraction, c.exponent)
		below, codeBelow := impl.JoinReal(true, c.fraction, c.exponent)
		wantReal(t, "near a tie", above, codeAbove, c.want, impl.OK)
		wantReal(t, "near a tie, negative", below, codeBelow, minus(c.want), impl.OK)
	}
}

func TestJoinRealBounds(t *testing.T) {
	for _, fraction := range []int64{-1, 1<<53 + 1, math.MaxInt64, math.MinInt64} {
		for _, negative := range []bool{false, true} {
			got, code := impl.JoinReal(negative, fraction, 0)
			wantReal(t, "fraction out of bounds", got, code, 0, impl.ErrRange)
		}
	}
	for _, exponent := range []int64{-401, 401, math.MaxInt64, math.MinInt64} {
		for _, fraction := range []int64{0, 1} {
			got, code := impl.JoinReal(true, fraction, exponent)
			wantReal(t, "exponent out of bounds", got, code, 0, impl.ErrRange)
		}
	}
}

func TestOrderKey(t *testing.T) {
	known := []struct {
		a   float32
		key int64
	}{{0, 0}, {minusZero, -1}, {least, 1}, {minus(least), -2}, {ofBits(0x007fffff), 1<<23 - 1}, {leastNormal, 1 << 23},
		{1, 0x3f800000}, {-1, -1 - 0x3f800000}, {greatest, 0x7f7fffff}, {infinite, 0x7f800000}, {minus(infinite), -1 - 0x7f800000}}
	for _, k := range known {
		key, code := impl.OrderKey(k.a)
		wantNumber(t, "OrderKey", key, k.key)
		wantNumber(t, "code of OrderKey", code, impl.OK)
		a, code := impl.FromOrderKey(k.key)
		wantReal(t, "FromOrderKey", a, code, k.a, impl.OK)
	}
	for _, a := range manyReals() {
		key, code := impl.OrderKey(a)
		if isNaN(a) {
			wantNumber(t, "OrderKey of NaN", key, 0)
			wantNumber(t, "code for NaN", code, impl.ErrRange)
			continue
		}
		found, codeFound := impl.FromOrderKey(key)
		wantReal(t, "found again by its place", found, codeFound, a, impl.OK)
	}
}

func TestOrderKeysFollowTheOrder(t *testing.T) {
	list := edgeReals()
	for _, a := range list {
		for _, b := range list {
			keyA, codeA := impl.OrderKey(a)
			keyB, codeB := impl.OrderKey(b)
			if codeA != impl.OK || codeB != impl.OK {
				continue
			}
			isLess := a < b || a == b && math.Signbit(float64(a)) && !math.Signbit(float64(b))
			if isLess != (keyA < keyB) {
				t.Errorf("places of %08x and %08x: %d and %d", bitsOf(a), bitsOf(b), keyA, keyB)
			}
		}
	}
}

func TestFromOrderKeyBounds(t *testing.T) {
	const last = 0x7f800000
	for _, key := range []int64{last + 1, -last - 2, 1 << 31, -1 << 31, 1 << 32, 1<<32 + 1, math.MaxInt64, math.MinInt64} {
		got, code := impl.FromOrderKey(key)
		wantReal(t, "place out of bounds", got, code, 0, impl.ErrRange)
	}
	for _, key := range []int64{last, -last - 1, 0, -1, 12345678, -12345678} {
		a, code := impl.FromOrderKey(key)
		again, codeAgain := impl.OrderKey(a)
		wantNumber(t, "code of a place", code, impl.OK)
		wantNumber(t, "place found again", again, key)
		wantNumber(t, "code of it", codeAgain, impl.OK)
	}
}

func TestNextNumbers(t *testing.T) {
	known := []struct{ a, above, below float32 }{
		{0, least, minus(least)},
		{minusZero, least, minus(least)},
		{least, 2 * least, 0},
		{minus(least), minusZero, -2 * least},
		{greatest, infinite, ofBits(0x7f7ffffe)},
		{minus(greatest), ofBits(0xff7ffffe), minus(infinite)},
		{infinite, infinite, greatest},
		{minus(infinite), minus(greatest), minus(infinite)},
		{notNumber, notNumber, notNumber},
		{ofBits(0x007fffff), leastNormal, ofBits(0x007ffffe)},
		{1, ofBits(0x3f800001), ofBits(0x3f7fffff)},
		{-1, ofBits(0xbf7fffff), ofBits(0xbf800001)},
	}
	for _, k := range known {
		wantReal(t, "NextAbove", impl.NextAbove(k.a), 0, k.above, 0)
		wantReal(t, "NextBelow", impl.NextBelow(k.a), 0, k.below, 0)
	}
	for _, a := range manyReals() {
		if a != 0 {
			wantReal(t, "next above", impl.NextAbove(a), 0, math.Nextafter32(a, infinite), 0)
			wantReal(t, "next below", impl.NextBelow(a), 0, math.Nextafter32(a, minus(infinite)), 0)
		}
		wantReal(t, "opposite of the next one", impl.NextBelow(a), 0, minus(impl.NextAbove(minus(a))), 0)
	}
}

func TestUnitOf(t *testing.T) {
	for _, a := range manyReals() {
		got, code := impl.UnitOf(a)
		if !isFinite(a) {
			wantReal(t, "UnitOf", got, code, 0, impl.ErrRange)
			continue
		}
		_, _, exponent, _ := impl.SplitReal(a)
		wantReal(t, "UnitOf", got, code, float32(math.Ldexp(1, int(exponent))), impl.OK)
	}
	one, _ := impl.UnitOf(1)
	zero, _ := impl.UnitOf(minusZero)
	great, _ := impl.UnitOf(minus(greatest))
	wantReal(t, "unit of 1", one, 0, 0x1p-23, 0)
	wantReal(t, "unit of -0", zero, 0, least, 0)
	wantReal(t, "unit of the greatest", great, 0, 0x1p104, 0)
}

func TestScaleRealRoundsOnce(t *testing.T) {
	for _, a := range edgeReals() {
		for k := int64(-400); k <= 400; k++ {
			got, code := impl.ScaleReal(a, k)
			want := a
			if isFinite(a) && a != 0 {
				want, _ = new(big.Float).SetPrec(exactBits).SetMantExp(exactly(a), int(k)).Float32()
			}
			wantReal(t, "ScaleReal", got, code, want, impl.OK)
		}
	}
	for _, a := range finiteReals() {
		for _, k := range []int64{-400, -151, -24, -23, -1, 0, 1, 23, 150, 400} {
			got, code := impl.ScaleReal(a, k)
			want := float32(math.Ldexp(float64(a), int(k)))
			wantReal(t, "ScaleReal", got, code, want, impl.OK)
		}
	}
}

func TestScaleRealEdges(t *testing.T) {
	cases := []struct {
		a    float32
		k    int64
		want float32
	}{
		{1, -149, least}, {1, -150, 0}, {-1, -150, minusZero}, {3, -150, 2 * least}, {-3, -151, minus(least)},
		{5, -151, least}, {7, -151, 2 * least}, {1, 128, infinite}, {-1, 400, minus(infinite)},
		{least, 400, infinite}, {least, 277, infinite}, {least, 276, 0x1p127}, {greatest, -400, 0}, {greatest, -277, least},
		{0, 400, 0}, {minusZero, 400, minusZero}, {minusZero, -400, minusZero},
		{infinite, -400, infinite}, {minus(infinite), -400, minus(infinite)}, {notNumber, 3, notNumber},
	}
	for _, c := range cases {
		got, code := impl.ScaleReal(c.a, c.k)
		wantReal(t, "ScaleReal", got, code, c.want, impl.OK)
	}
	for _, a := range []float32{0, 1, -1, infinite, notNumber} {
		for _, k := range []int64{-401, 401, math.MaxInt64, math.MinInt64} {
			got, code := impl.ScaleReal(a, k)
			wantReal(t, "scale out of bounds", got, code, 0, impl.ErrRange)
		}
	}
}

func TestFlushReal(t *testing.T) {
	for _, a := range manyReals() {
		want := a
		if a != 0 && a > -leastNormal && a < leastNormal {
			want = ofBits(bitsOf(a) & (1 << 31))
		}
		wantReal(t, "FlushReal", impl.FlushReal(a), 0, want, 0)
	}
}
