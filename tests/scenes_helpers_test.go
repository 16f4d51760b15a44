package tests

import (
	"fmt"
	"math/rand"
	"slices"
	"testing"

	"loop.example/g01171/impl"
)

func sameOps(o, p impl.Op) bool {
	return o.Kind == p.Kind && sameFamilies(o.Family, p.Family) && sameSpots(o.Spot, p.Spot) && o.Depth == p.Depth &&
		same(o.Small, p.Small) && samePoints(o.Centre, p.Centre) && same(o.Radius, p.Radius)
}

func sameScenes(s, other impl.Scene) bool {
	return same(s.Side, other.Side) && slices.EqualFunc(s.Ops, other.Ops, sameOps)
}

func wantScene(t *testing.T, name string, got impl.Scene, line, code int64, want impl.Scene, wantLine, wantCode int64) {
	t.Helper()
	if !sameScenes(got, want) || line != wantLine || code != wantCode {
		t.Errorf("%s: got %v, %d and %s, want %v, %d and %s", name, got, line, impl.CodeName(code), want, wantLine, impl.CodeName(wantCode))
	}
}

func wantCellList(t *testing.T, name string, got []impl.Cell, code int64, want [][2]int32, wantCode int64) {
	t.Helper()
	var list [][2]int32
	for _, c := range got {
		list = append(list, c)
	}
	wantCells(t, name, list, code, want, wantCode)
}

func wantCorners(t *testing.T, name string, got []impl.Corner, code int64, want []impl.Corner, wantCode int64) {
	t.Helper()
	if !slices.Equal(got, want) || code != wantCode {
		t.Errorf("%s: got %v and %s, want %v and %s", name, got, impl.CodeName(code), want, impl.CodeName(wantCode))
	}
}

func wantProof(t *testing.T, name string, got impl.Proof, code int64, want impl.Proof, wantCode int64) {
	t.Helper()
	if got != want || code != wantCode {
		t.Errorf("%s: got %v and %s, want %v and %s", name, got, impl.CodeName(code), want, impl.CodeName(wantCode))
	}
}

func sceneOf(side float32, ops ...impl.Op) impl.Scene { return impl.Scene{Side: side, Ops: ops} }

func orbitOp(f impl.Family, s impl.Spot, depth int64) impl.Op {
	return impl.Op{Kind: impl.OpOrbit, Family: f, Spot: s, Depth: depth}
}

func limitOp(f impl.Family, s impl.Spot, depth int64) impl.Op {
	return impl.Op{Kind: impl.OpLimit, Family: f, Spot: s, Depth: depth}
}

func leavesOp(f impl.Family, x complex64, small float32, depth int64) impl.Op {
	return impl.Op{Kind: impl.OpLeaves, Family: f, Spot: near(x), Depth: depth, Small: small}
}

func discOp(centre complex64, radius float32) impl.Op {
	return impl.Op{Kind: impl.OpDisc, Centre: centre, Radius: radius}
}

// compiled is the scene of a text that has no error.
func compiled(t *testing.T, text string) impl.Scene {
	t.Helper()
	s, line, code := impl.CompileScene(text)
	if code != impl.OK {
		t.Fatalf("CompileScene %q: got %s in the line %d", text, impl.CodeName(code), line)
	}
	return s
}

func copyOfScene(s impl.Scene) impl.Scene {
	s.Ops = slices.Clone(s.Ops)
	for i := range s.Ops {
		s.Ops[i].Family.Maps = slices.Clone(s.Ops[i].Family.Maps)
	}
	return s
}

// guardedScene returns a scene with room behind all lists, and a function that reports whether scene and room are as before.
func guardedScene(s impl.Scene) (impl.Scene, func() bool) {
	whole := append(slices.Clone(s.Ops), slices.Repeat([]impl.Op{discOp(77, 78)}, 8)...)
	var areKept []func() bool
	for i := range whole {
		maps, isKept := guardedMaps(whole[i].Family.Maps)
		whole[i].Family.Maps = maps
		areKept = append(areKept, isKept)
	}
	before := slices.Clone(whole)
	s.Ops = whole[:len(s.Ops)]
	return s, func() bool {
		return slices.EqualFunc(whole, before, sameOps) && !slices.ContainsFunc(areKept, func(isKept func() bool) bool { return !isKept() })
	}
}

// everyKind has one valid operation of each kind, and all of their fields.
func everyKind() impl.Scene {
	f := familyOf(impl.Map{A: 1, B: 1, D: 1}, impl.Map{B: 1, C: -1, D: 3})
	return sceneOf(0.5, orbitOp(f, near(2+1i), 2), limitOp(f, farSpot, 3), leavesOp(f, 1-2i, 0.25, 4), discOp(-3+4i, 1.5))
}

// isPictureNumber reports whether a number is a column or a row of cells of pictures.
func isPictureNumber(n int32) bool { return n >= -1000000 && n <= 1000000 }

// cellOfVisit tells the cell that a visit has in a picture.
func cellOfVisit(v impl.Visit, side float32) (impl.Cell, bool) {
	c, code := cellForTest(v.Spot.At, side)
	return c, !v.Spot.Far && code == impl.OK && isPictureNumber(c[0]) && isPictureNumber(c[1])
}

// cornerForTest tells the corner of a cell, which may be infinite.
func cornerForTest(x, y int32, side float32) complex64 {
	part := func(n int32) float32 {
		narrow, _ := wideTimes(wideOf(1).SetInt64(int64(n)), wideOf(side)).Float32()
		return narrow
	}
	return complex(part(x), part(y))
}

// isInDisc reports whether a point, be it infinite or not, is not farther from the centre than the radius.
func isInDisc(x complex64, o impl.Op) bool {
	return isFinitePoint(x) && root(squaredDistance(x, o.Centre)) <= o.Radius
}

// discVisitsForTest tells the visits of a disc.
func discVisitsForTest(o impl.Op, side float32) ([]impl.Visit, int64) {
	a, b, r := real(o.Centre), imag(o.Centre), o.Radius
	first, firstCode := cellForTest(complex(a-r, b-r), side)
	last, lastCode := cellForTest(complex(a+r, b+r), side)
	if firstCode != impl.OK || lastCode != impl.OK {
		return nil, impl.ErrLimit
	}
	columns, rows := int64(last[0])-int64(first[0]), int64(last[1])-int64(first[1])
	if columns > 48 || rows > 48 {
		return nil, impl.ErrLimit
	}
	var visits []impl.Visit
	for i := range columns + 1 {
		for j := range rows + 1 {
			if x := cornerForTest(first[0]+int32(i), first[1]+int32(j), side); isInDisc(x, o) {
				visits = append(visits, impl.Visit{Spot: near(x)})
			}
		}
	}
	return visits, impl.OK
}

// opVisitsForTest tells the visits of a valid operation.
func opVisitsForTest(o impl.Op, side float32) ([]impl.Visit, int64) {
	switch o.Kind {
	case impl.OpDisc:
		return discVisitsForTest(o, side)
	case impl.OpLeaves:
		return leavesForTest(o.Family, o.Spot.At, o.Small, o.Depth, impl.MaxVisits)
	}
	visits, code := orbitForTest(o.Family, o.Spot, o.Depth)
	if o.Kind == impl.OpLimit {
		visits = slices.DeleteFunc(visits, func(v impl.Visit) bool { return int64(len(v.Word)) < o.Depth })
	}
	return visits, code
}

// sketch has what a valid scene draws.
type sketch struct {
	scene  impl.Scene
	visits [][]impl.Visit
	codes  []int64
	cells  cellSet
	proofs map[impl.Cell]impl.Proof
	// code is that of an operation; there may be too many cells or blocks.
	code int64
}

func sketchOf(s impl.Scene) sketch {
	k := sketch{scene: s, cells: cellSet{}, proofs: map[impl.Cell]impl.Proof{}}
	for i, o := range s.Ops {
		visits, code := opVisitsForTest(o, s.Side)
		k.visits, k.codes = append(k.visits, visits), append(k.codes, code)
		if k.code == impl.OK {
			k.code = code
		}
		for _, v := range visits {
			c, isCell := cellOfVisit(v, s.Side)
			if !isCell {
				continue
			}
			if _, hasProof := k.proofs[c]; !hasProof {
				k.proofs[c] = impl.Proof{Op: int64(i), Word: v.Word}
			}
			k.cells[[2]int64{int64(c[0]), int64(c[1])}] = true
		}
	}
	return k
}

// inRows tells the cells in order, and the code of CellsOfScene.
func (k sketch) inRows() ([][2]int32, int64) {
	if k.code != impl.OK || len(k.cells) > 1024 {
		return nil, impl.ErrLimit
	}
	return k.cells.inRows(), impl.OK
}

// picture tells the blocks, and the code of DrawScene.
func (k sketch) picture() ([]impl.Block, int64) {
	list := pictureOfSet(k.cells)
	if _, code := k.inRows(); code != impl.OK || len(list) > 64 {
		return nil, impl.ErrLimit
	}
	return list, impl.OK
}

// block tells the mask of a corner, and the code of DrawBlock.
func (k sketch) block(at impl.Corner) (impl.Mask, int64) {
	if _, code := k.inRows(); code != impl.OK {
		return impl.Mask{}, code
	}
	left, low := 16*int64(at[0]), 16*int64(at[1])
	return maskOfSet(k.cells.moved(func(x, y int64) [2]int64 { return [2]int64{x - left, y - low} })), impl.OK
}

// randomOp is valid; its kinds are equally frequent.
func randomOp(random *rand.Rand) impl.Op {
	if random.Intn(4) == 0 {
		centre := complex(float32(random.NormFloat64()*20), float32(random.NormFloat64()*20))
		return discOp(centre, float32(random.ExpFloat64()*4)+0.1)
	}
	f := anyFamily(random, 3)
	if random.Intn(3) == 0 {
		f = shifts(complex(float32(random.Intn(9)-4), 1), complex(2, float32(random.Intn(5))-2.5))
	}
	x := complex(float32(random.NormFloat64()), float32(random.Intn(5)-2))
	depth := random.Int63n(min(mostDepth(f), 5) + 1)
	switch random.Intn(3) {
	case 0:
		return orbitOp(f, near(x), depth)
	case 1:
		return limitOp(f, near(x), depth)
	}
	return leavesOp(f, x, []float32{0.5, 0.1, 0.9}[random.Intn(3)], min(depth, 3))
}

func randomScene(random *rand.Rand) impl.Scene {
	s := sceneOf([]float32{1, 0.5, 0.1, 0.25, 3, 1.0 / 3, 20}[random.Intn(7)])
	for range random.Intn(5) {
		s.Ops = append(s.Ops, randomOp(random))
	}
	return s
}

func sceneText(s impl.Scene) string { return fmt.Sprintf("%v", s) }
