package tests

import (
	"fmt"
	"math/rand"
	"slices"
	"testing"

	"loop.example/g01171/impl"
)

func TestListsOfPointsAreNotChanged(t *testing.T) {
	random := rand.New(rand.NewSource(60))
	for range 200 {
		list := randomPoints(random, random.Intn(20))
		if random.Intn(2) == 0 {
			list = gridPoints(random, random.Intn(20))
		}
		guarded, isKept := guardedPoints(list)
		impl.NearestPoint(guarded, 1)
		impl.CentreOf(guarded)
		impl.IsInHull(guarded, 0)
		hull, _ := impl.HullOf(guarded)
		guardedHull, isHullKept := guardedPoints(hull)
		impl.IsInHull(guardedHull, 1)
		sorted, _ := impl.SortPoints(guarded)
		unique, _ := impl.UniquePoints(guarded)
		if !isKept() || !isHullKept() {
			t.Fatal("a list was changed")
		}
		for _, result := range [][]complex64{hull, sorted, unique} {
			result = append(result, 99)
			for i := range result {
				result[i] = 77
			}
		}
		if !isKept() {
			t.Fatal("a result has memory of an argument")
		}
	}
}

// pointResults tells all that the functions of lists return.
func pointResults(list []complex64, x complex64) string {
	sorted, codeSorted := impl.SortPoints(list)
	unique, codeUnique := impl.UniquePoints(list)
	hull, codeHull := impl.HullOf(list)
	isIn, codeIn := impl.IsInHull(hull, x)
	nearest, codeNearest := impl.NearestPoint(list, x)
	centre, codeCentre := impl.CentreOf(list)
	return fmt.Sprintln(listText(sorted), codeSorted, listText(unique), codeUnique, listText(hull), codeHull, isIn, codeIn, nearest, codeNearest, bitsText(centre), codeCentre)
}

func TestEqualListsOfPointsHaveEqualResults(t *testing.T) {
	random := rand.New(rand.NewSource(61))
	for range 200 {
		list := randomFinitePoints(random, random.Intn(40))
		if random.Intn(2) == 0 {
			list = randomPoints(random, random.Intn(40))
		}
		x := randomPoint(random)
		copied, _ := guardedPoints(list)
		first, second := pointResults(list, x), pointResults(copied, x)
		if first != second {
			t.Errorf("first %s, then %s", first, second)
		}
	}
	if pointResults(nil, 0) != pointResults([]complex64{}, 0) {
		t.Error("no list and an empty list differ")
	}
}

func TestResultsOfPointsShareNoMemory(t *testing.T) {
	lists := map[string]func([]complex64) ([]complex64, int64){"SortPoints": impl.SortPoints, "UniquePoints": impl.UniquePoints, "HullOf": impl.HullOf}
	for name, f := range lists {
		for _, list := range [][]complex64{{1}, {1, 2}, {1, 2, 2 + 1i}, {2 + 1i, 2, 1}} {
			before := append([]complex64{}, list...)
			first, _ := f(list)
			want := append([]complex64{}, first...)
			second, _ := f(list)
			for i := range first {
				first[i] = 77
			}
			if !slices.Equal(second, want) || !slices.Equal(list, before) {
				t.Errorf("%s shares memory", name)
			}
		}
	}
}

func TestPointsFunctionsReturnForAllParts(t *testing.T) {
	list := edgePoints()
	for i, x := range list {
		y := list[(i*7+3)%len(list)]
		impl.PointText(x)
		impl.KeyOf(x)
		for _, side := range edgeReals() {
			impl.CellOf(x, side)
			impl.CornerOf(impl.Cell{int32(bitsOf(real(x))), int32(bitsOf(imag(x)))}, side)
		}
		impl.Orientation(x, y, 1)
		impl.HullOf([]complex64{x, y, 1})
		impl.IsInHull([]complex64{x, y}, 1)
		impl.NearestPoint([]complex64{x, y}, 1)
		impl.CentreOf([]complex64{x, y})
		impl.NeighboursOf(impl.Cell{int32(bitsOf(real(x))), int32(bitsOf(imag(x)))})
	}
}

func TestExampleOfChapter2(t *testing.T) {
	product := impl.PointProduct(1+2i, 3+4i)
	wantPoint(t, "PointProduct", product, 0, -5+10i, 0)
	wantPoint(t, "PointQuotient", impl.PointQuotient(product, 1+2i), 0, 3+4i, 0)
	wantPoint(t, "TurnPoint", impl.TurnPoint(1+2i, 1), 0, -2+1i, 0)
	wantReal(t, "SizeOf", impl.SizeOf(3+4i), 0, 5, 0)
	wantTurn(t, 0, 1, 1i, 1)
	cell, code := impl.CellOf(-0.5+1.5i, 1)
	wantCell(t, "CellOf", cell, code, impl.Cell{-1, 1}, impl.OK)
	hull, code := impl.HullOf([]complex64{0, 1, 1 + 1i, 1i, 0.5 + 0.5i})
	wantPoints(t, "HullOf", hull, code, []complex64{0, 1, 1 + 1i, 1i}, impl.OK)
	if key := impl.KeyOf(1); key != (impl.PointKey{0x3f, 0x80, 0, 0, 0, 0, 0, 0}) {
		t.Errorf("KeyOf 1: got %x", key)
	}
}
