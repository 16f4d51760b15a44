package tests

import (
	"encoding/binary"
	"math"
	"math/big"
	"math/rand"
	"slices"
	"testing"

	"loop.example/g01171/impl"
)

func wantCell(t *testing.T, name string, got impl.Cell, code int64, want impl.Cell, wantCode int64) {
	t.Helper()
	if got != want || code != wantCode {
		t.Errorf("%s: got %v and %s, want %v and %s", name, got, impl.CodeName(code), want, impl.CodeName(wantCode))
	}
}

// cellNumber tells the number of a cell, and whether it is one; a and side are finite, and side is greater than 0.
func cellNumber(a, side float32) (int32, bool) {
	quotient := new(big.Rat).SetFloat64(float64(a))
	quotient.Quo(quotient, new(big.Rat).SetFloat64(float64(side)))
	rounded, _ := quotient.Float64()
	whole := math.Floor(rounded)
	if math.Abs(whole) > impl.MaxCell {
		return 0, false
	}
	return int32(whole), true
}

func cellForTest(x complex64, side float32) (impl.Cell, int64) {
	if !isFinitePoint(x) || !isFinite(side) || side <= 0 {
		return impl.Cell{}, impl.ErrRange
	}
	column, isColumn := cellNumber(real(x), side)
	row, isRow := cellNumber(imag(x), side)
	if !isColumn || !isRow {
		return impl.Cell{}, impl.ErrRange
	}
	return impl.Cell{column, row}, impl.OK
}

func TestCellOf(t *testing.T) {
	random := rand.New(rand.NewSource(24))
	sides := []float32{1, 0.5, 0.1, 3, least, ofBits(0x007fffff), leastNormal, greatest, 1e-30, 1e30, 0, minusZero, -1, minus(least), infinite, minus(infinite), notNumber}
	list := append(edgePoints(), randomPoints(random, 300)...)
	found := 0
	for _, x := range list {
		for _, side := range append(sides, ofBits(random.Uint32())) {
			want, wantCode := cellForTest(x, side)
			got, code := impl.CellOf(x, side)
			wantCell(t, "CellOf "+bitsText(x), got, code, want, wantCode)
			if code == impl.OK {
				found++
			}
		}
	}
	if found < 1000 {
		t.Errorf("the samples have only %d cells", found)
	}
}

func TestCellOfEdges(t *testing.T) {
	const most = impl.MaxCell
	cases := []struct {
		x    complex64
		side float32
		want impl.Cell
		code int64
	}{
		{-0.5 + 1.5i, 1, impl.Cell{-1, 1}, impl.OK},
		{1 - 1i, 1, impl.Cell{1, -1}, impl.OK},
		{complex(minusZero, 0), 1, impl.Cell{0, 0}, impl.OK},
		{complex(minus(least), least), greatest, impl.Cell{-1, 0}, impl.OK},
		{complex(minus(least), least), least, impl.Cell{-1, 1}, impl.OK},
		{complex(5*least, -5*least), 2 * least, impl.Cell{2, -3}, impl.OK},
		{complex(most, -most), 1, impl.Cell{most, -most}, impl.OK},
		{complex(most, 0), 0.9999999, impl.Cell{}, impl.ErrRange},
		{complex(most+128, 0), 1, impl.Cell{}, impl.ErrRange},
		{complex(0, -most-128), 1, impl.Cell{}, impl.ErrRange},
		{complex(-most-128, 0), 1, impl.Cell{}, impl.ErrRange},
		{complex(0, most+128), 1, impl.Cell{}, impl.ErrRange},
		{complex(most-64, 64-most), 1, impl.Cell{most - 64, 64 - most}, impl.OK},
		{complex(1<<31, 0), 2, impl.Cell{most, 0}, impl.OK},
		{complex(greatest, 0), least, impl.Cell{}, impl.ErrRange},
		{complex(0, minus(greatest)), least, impl.Cell{}, impl.ErrRange},
		{complex(greatest, minus(greatest)), greatest, impl.Cell{1, -1}, impl.OK},
	}
	for _, c := range cases {
		got, code := impl.CellOf(c.x, c.side)
		wantCell(t, "CellOf "+bitsText(c.x), got, code, c.want, c.code)
	}
	for _, odd := range oddPoints() {
		got, code := impl.CellOf(odd, 1)
		wantCell(t, "CellOf an odd point", got, code, impl.Cell{}, impl.ErrRange)
	}
}

// The greatest numbers of cells have so many bits that a wide quotient is rounded up to one; the document counts what is rounded.
func TestCellsOfRoundedQuotients(t *testing.T) {
	random := rand.New(rand.NewSource(25))
	for range 20000 {
		side := ofBits(0x3f800000 | random.Uint32()&0x7fffff)
		n := int32(impl.MaxCell - 1 - random.Intn(1<<20))
		a := float32(float64(n) * float64(side))
		for _, part := range []float32{a, math.Nextafter32(a, 0), minus(a)} {
			want, wantCode := cellForTest(complex(part, 0), side)
			got, code := impl.CellOf(complex(part, 0), side)
			wantCell(t, "CellOf "+bitsText(complex(part, side)), got, code, want, wantCode)
		}
	}
}

func TestPointsLieInTheirCells(t *testing.T) {
	random := rand.New(rand.NewSource(26))
	for range 2000 {
		x := complex(float32(random.Intn(4001)-2000)/16, float32(random.Intn(4001)-2000)/16)
		side := float32(math.Ldexp(1, random.Intn(12)-8))
		c, code := impl.CellOf(x, side)
		wantNumber(t, "code of CellOf", code, impl.OK)
		corner, code := impl.CornerOf(c, side)
		wantNumber(t, "code of CornerOf", code, impl.OK)
		across, up := real(x)-real(corner), imag(x)-imag(corner)
		if across < 0 || across >= side || up < 0 || up >= side {
			t.Errorf("%g is not in the cell %v with the corner %g and the side %g", x, c, corner, side)
		}
		again, code := impl.CellOf(corner, side)
		wantCell(t, "the cell of a corner", again, code, c, impl.OK)
	}
}

func TestCornerOf(t *testing.T) {
	numbers := []int32{0, 1, -1, 2, -7, 16777217, -16777217, 1073741823, -1073741823, impl.MaxCell, -impl.MaxCell}
	for _, side := range []float32{1, 0.5, 0.1, 3, least, 3 * least, leastNormal, greatest, 1e30, ofBits(0x3fffffff)} {
		for _, column := range numbers {
			for _, row := range numbers {
				part := func(n int32) float32 {
					product := wideTimes(new(big.Float).SetPrec(wideBits).SetInt64(int64(n)), wideOf(side))
					narrow, _ := product.Float32()
					return narrow
				}
				got, code := impl.CornerOf(impl.Cell{column, row}, side)
				wantPoint(t, "CornerOf", got, code, complex(part(column), part(row)), impl.OK)
			}
		}
	}
	got, code := impl.CornerOf(impl.Cell{-1, 2}, 0.5)
	wantPoint(t, "CornerOf -1, 2", got, code, -0.5+1i, impl.OK)
	got, code = impl.CornerOf(impl.Cell{2, -2}, greatest)
	wantPoint(t, "CornerOf a cell far out", got, code, complex(infinite, minus(infinite)), impl.OK)
}

func TestCornerOfInvalid(t *testing.T) {
	for _, side := range []float32{0, minusZero, -1, minus(least), infinite, minus(infinite), notNumber} {
		got, code := impl.CornerOf(impl.Cell{1, 1}, side)
		wantPoint(t, "CornerOf with an odd side", got, code, 0, impl.ErrRange)
	}
	for _, n := range []int32{impl.MaxCell + 1, -impl.MaxCell - 1, math.MaxInt32, math.MinInt32} {
		for _, c := range []impl.Cell{{n, 0}, {0, n}, {n, n}} {
			got, code := impl.CornerOf(c, 1)
			wantPoint(t, "CornerOf no cell", got, code, 0, impl.ErrRange)
		}
	}
}

func TestNeighboursOf(t *testing.T) {
	const most = impl.MaxCell
	for _, c := range []impl.Cell{{0, 0}, {-1, 1}, {5, -7}, {most - 1, most - 1}, {1 - most, 1 - most}, {1 - most, most - 1}} {
		want := []impl.Cell{{c[0] - 1, c[1] - 1}, {c[0] - 1, c[1]}, {c[0] - 1, c[1] + 1}, {c[0], c[1] - 1},
			{c[0], c[1] + 1}, {c[0] + 1, c[1] - 1}, {c[0] + 1, c[1]}, {c[0] + 1, c[1] + 1}}
		got, code := impl.NeighboursOf(c)
		if !slices.Equal(got, want) || code != impl.OK {
			t.Errorf("NeighboursOf %v: got %v and %d", c, got, code)
		}
		got[0] = impl.Cell{99, 99}
		again, _ := impl.NeighboursOf(c)
		if !slices.Equal(again, want) {
			t.Errorf("NeighboursOf %v shares memory", c)
		}
	}
	for _, n := range []int32{most, -most, most + 1, -most - 1, math.MaxInt32, math.MinInt32} {
		for _, c := range []impl.Cell{{n, 0}, {0, n}, {n, n}} {
			got, code := impl.NeighboursOf(c)
			if len(got) != 0 || code != impl.ErrRange {
				t.Errorf("NeighboursOf %v: got %v and %d", c, got, code)
			}
		}
	}
}

func keyForTest(x complex64) impl.PointKey {
	var key impl.PointKey
	for i, part := range []float32{real(x), imag(x)} {
		word := bitsOf(part)
		if isNaN(part) {
			word = 0x7fc00000
		}
		binary.BigEndian.PutUint32(key[4*i:], word)
	}
	return key
}

func TestKeys(t *testing.T) {
	random := rand.New(rand.NewSource(27))
	list := append(append(edgePoints(), oddPoints()...), randomPoints(random, 2000)...)
	for _, x := range list {
		key := impl.KeyOf(x)
		if key != keyForTest(x) {
			t.Errorf("KeyOf %s: got %x", bitsText(x), key)
		}
		found, code := impl.FromKey(key)
		wantPoint(t, "found again by its key", found, code, x, impl.OK)
	}
	if key := impl.KeyOf(1); key != (impl.PointKey{0x3f, 0x80}) {
		t.Errorf("KeyOf 1: got %x", key)
	}
	if key := impl.KeyOf(complex(minusZero, minus(notNumber))); key != (impl.PointKey{0x80, 0, 0, 0, 0x7f, 0xc0, 0, 0}) {
		t.Errorf("KeyOf -0 and NaN: got %x", key)
	}
}

func TestKeysAreTheSameJustIfPointsAre(t *testing.T) {
	list := append(edgePoints(), oddPoints()...)
	for _, x := range list {
		for _, y := range list {
			if (impl.KeyOf(x) == impl.KeyOf(y)) != impl.SamePoint(x, y) {
				t.Errorf("keys of %s and %s: %x and %x", bitsText(x), bitsText(y), impl.KeyOf(x), impl.KeyOf(y))
			}
		}
	}
}

func TestFromKey(t *testing.T) {
	got, code := impl.FromKey(impl.PointKey{64, 0, 0, 0, 191, 128, 0, 0})
	wantPoint(t, "FromKey", got, code, 2-1i, impl.OK)
	for _, word := range []uint32{0x7fc00001, 0x7f800001, 0x7fffffff, 0xffc00000, 0xff800001, 0xffffffff, 0x7fbfffff, 0x7fe00000} {
		for place := range 2 {
			var key impl.PointKey
			binary.BigEndian.PutUint32(key[4*place:], word)
			got, code = impl.FromKey(key)
			wantPoint(t, "FromKey with other bits of a NaN", got, code, 0, impl.ErrRange)
		}
	}
	random := rand.New(rand.NewSource(28))
	for range 3000 {
		var key impl.PointKey
		random.Read(key[:])
		x := complex(ofBits(binary.BigEndian.Uint32(key[:4])), ofBits(binary.BigEndian.Uint32(key[4:])))
		want, wantCode := x, int64(impl.OK)
		if keyForTest(x) != key {
			want, wantCode = 0, impl.ErrRange
		}
		got, code = impl.FromKey(key)
		wantPoint(t, "FromKey of random bytes", got, code, want, wantCode)
	}
}
