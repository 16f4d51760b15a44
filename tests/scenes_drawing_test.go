package tests

import (
	"fmt"
	"math"
	"math/rand"
	"slices"
	"testing"

	"loop.example/g01171/impl"
)

// cornersOf tells the corners of blocks.
func cornersOf(list []impl.Block) []impl.Corner {
	var corners []impl.Corner
	for _, b := range list {
		corners = append(corners, b.At)
	}
	return corners
}

// checkDrawing checks all functions that draw a valid scene, and returns the cells and the code of DrawScene.
func checkDrawing(t *testing.T, s impl.Scene) ([]impl.Cell, int64) {
	t.Helper()
	k, name := sketchOf(s), sceneText(s)
	wantList, wantCode := k.inRows()
	cells, code := impl.CellsOfScene(s)
	wantCellList(t, "CellsOfScene "+name, cells, code, wantList, wantCode)
	wantBlocks, wantCode := k.picture()
	blocks, code := impl.DrawScene(s)
	wantPicture(t, "DrawScene "+name, blocks, code, wantBlocks, wantCode)
	wantBool(t, "ValidPicture of "+name, impl.ValidPicture(blocks), 0, true, 0)
	corners, cornersCode := impl.CornersOfScene(s)
	wantCorners(t, "CornersOfScene "+name, corners, cornersCode, cornersOf(wantBlocks), wantCode)
	for _, at := range manyCorners(pictureOfSet(k.cells)) {
		m, code := impl.DrawBlock(s, at)
		want, wantCode := k.block(at)
		wantMask(t, fmt.Sprint("DrawBlock ", at, " of ", name), m, code, want, wantCode)
	}
	return cells, code
}

// manyCorners tells corners of blocks, those beside some of them, and such as no picture has.
func manyCorners(list []impl.Block) []impl.Corner {
	corners := []impl.Corner{{0, 0}, {-1, -1}, {62500, -62501}, {math.MaxInt32, math.MinInt32}, {math.MinInt32, 0}, {0, math.MaxInt32}, {1 << 28, 0}, {0, -1 << 28}}
	for i, at := range cornersOf(list) {
		if i < 5 {
			corners = append(corners, impl.Corner{at[0] + 1, at[1]}, impl.Corner{at[0], at[1] - 1}, impl.Corner{at[1], at[0]}, impl.Corner{at[0] + 1<<28, at[1]})
		}
		if i < 20 {
			corners = append(corners, at)
		}
	}
	return corners
}

func TestDrawing(t *testing.T) {
	random := rand.New(rand.NewSource(640))
	codes, several, moved := map[int64]int{}, 0, 0
	for range 250 {
		s := randomScene(random)
		_, code := checkDrawing(t, s)
		codes[code]++
		for i, o := range s.Ops {
			visits, _ := impl.OpVisits(s, int64(i))
			if len(visits) > 0 && i > 0 {
				several++
			}
			for _, v := range visits {
				c, code := impl.CellOf(v.Spot.At, s.Side)
				if corner, _ := impl.CornerOf(c, s.Side); o.Kind == impl.OpDisc && code == impl.OK && corner != v.Spot.At {
					moved++
				}
			}
		}
	}
	if codes[impl.OK] < 50 || codes[impl.ErrLimit] < 5 || several < 50 || moved < 50 {
		t.Errorf("codes %v; %d operations behind others; %d corners that lie in another cell than their own one", codes, several, moved)
	}
}

// A block that is drawn alone is that of the whole picture.
func TestBlocksAreThoseOfThePicture(t *testing.T) {
	random := rand.New(rand.NewSource(641))
	for range 150 {
		s := randomScene(random)
		blocks, code := impl.DrawScene(s)
		if code != impl.OK {
			continue
		}
		list := setOfBlocks(blocks).inRows()
		cells, code := impl.CellsOfScene(s)
		wantCellList(t, "CellsOfScene "+sceneText(s), cells, code, list, impl.OK)
		for _, b := range blocks {
			m, code := impl.DrawBlock(s, b.At)
			wantMask(t, "DrawBlock of "+sceneText(s), m, code, b.Mask, impl.OK)
		}
	}
}

func TestCellsOfScenes(t *testing.T) {
	f := shifts(1)
	far := familyOf(impl.Map{B: 1, C: 1})
	cases := map[string]struct {
		s    impl.Scene
		want [][2]int32
	}{
		"no operations":                    {sceneOf(1), nil},
		"a disc without cells":             {sceneOf(1, discOp(0.5+0.5i, 0.25)), nil},
		"an orbit":                         {sceneOf(1, orbitOp(f, near(0), 2)), [][2]int32{{-2, 0}, {-1, 0}, {0, 0}, {1, 0}, {2, 0}}},
		"rows ahead of columns":            {sceneOf(1, orbitOp(shifts(1-1i), near(0), 1)), [][2]int32{{1, -1}, {0, 0}, {-1, 1}}},
		"a cell met twice":                 {sceneOf(2, orbitOp(f, near(0), 2)), [][2]int32{{-1, 0}, {0, 0}, {1, 0}}},
		"limits":                           {sceneOf(1, limitOp(f, near(0.5), 2)), [][2]int32{{-2, 0}, {2, 0}}},
		"a cell of two operations":         {sceneOf(1, limitOp(f, near(0.5), 2), discOp(2, 0.5), orbitOp(f, near(7), 0)), [][2]int32{{-2, 0}, {2, 0}, {7, 0}}},
		"operations in another order":      {sceneOf(1, orbitOp(f, near(7), 0), discOp(2, 0.5), limitOp(f, near(0.5), 2)), [][2]int32{{-2, 0}, {2, 0}, {7, 0}}},
		"operations without cells":         {sceneOf(1, orbitOp(f, farSpot, 3), discOp(0.5+0.5i, 0.25), orbitOp(f, near(7), 0), limitOp(f, farSpot, 1)), [][2]int32{{7, 0}}},
		"leaves":                           {sceneOf(1, leavesOp(familyOf(impl.Map{A: 0.25, D: 1}), 4, 0.5, 2)), [][2]int32{{1, 0}, {64, 0}}},
		"far visits":                       {sceneOf(1, orbitOp(far, near(0), 1)), [][2]int32{{0, 0}}},
		"only far visits":                  {sceneOf(1, orbitOp(f, farSpot, 2)), nil},
		"visits that come from far":        {sceneOf(1, orbitOp(far, farSpot, 1)), [][2]int32{{0, 0}}},
		"cells that are not found":         {sceneOf(0x1p-40, orbitOp(f, near(0), 1)), [][2]int32{{0, 0}}},
		"no cells that are found":          {sceneOf(least, orbitOp(f, near(10), 1)), nil},
		"no columns on the right":          {sceneOf(1, orbitOp(f, near(1e6), 2)), [][2]int32{{999998, 0}, {999999, 0}, {1000000, 0}}},
		"no columns on the left":           {sceneOf(1, orbitOp(f, near(-1e6), 2)), [][2]int32{{-1000000, 0}, {-999999, 0}, {-999998, 0}}},
		"no rows above":                    {sceneOf(1, orbitOp(shifts(1i), near(1e6i), 2)), [][2]int32{{0, 999998}, {0, 999999}, {0, 1000000}}},
		"no rows below":                    {sceneOf(1, orbitOp(shifts(1i), near(-1e6i), 2)), [][2]int32{{0, -1000000}, {0, -999999}, {0, -999998}}},
		"just below the least row":         {sceneOf(1, orbitOp(f, near(-1000000.0625i), 0), orbitOp(f, near(1000000.9375i), 0)), [][2]int32{{0, 1000000}}},
		"just left of the least column":    {sceneOf(1, orbitOp(f, near(-1000000.0625), 0), orbitOp(f, near(1000000.9375), 0)), [][2]int32{{1000000, 0}}},
		"columns as 32 bits":               {sceneOf(0x1p-12, orbitOp(f, near(0x1p20), 0), orbitOp(f, near(0x1p18), 0)), nil},
		"a disc at the end of all columns": {sceneOf(1, discOp(1e6, 1)), [][2]int32{{1000000, -1}, {999999, 0}, {1000000, 0}, {1000000, 1}}},
		"a disc that has no picture cell":  {sceneOf(1, discOp(2e6, 1)), nil},
		"two cells of one corner":          {sceneOf(0.1, discOp(0.3, 0.05)), [][2]int32{{3, 0}}},
		"infinite corners":                 {sceneOf(greatest, discOp(complex(minus(greatest), minus(greatest)), 1)), [][2]int32{{-1, -1}}},
		"negative numbers":                 {sceneOf(0.5, orbitOp(f, near(-0.25-0.75i), 0)), [][2]int32{{-1, -2}}},
		"-0":                               {sceneOf(1, orbitOp(f, near(complex(minusZero, minusZero)), 0)), [][2]int32{{0, 0}}},
		"the least point below 0":          {sceneOf(1, orbitOp(f, near(complex(minus(least), least)), 0)), [][2]int32{{-1, 0}}},
	}
	for name, c := range cases {
		cells, _ := checkDrawing(t, c.s)
		wantCellList(t, "CellsOfScene with "+name, cells, 0, c.want, 0)
	}
}

// manyCells has a disc of 1009 cells, and three of 5 cells each: just as many as there may be.
func manyCells() impl.Scene {
	return sceneOf(1, discOp(0, 18), discOp(100, 1), discOp(100i, 1), discOp(-100-100i, 1))
}

// manyBlocks has an orbit of 61 cells and three discs of one cell, each of them in a block of its own.
func manyBlocks() impl.Scene {
	return sceneOf(0.5, orbitOp(shifts(8, 8i), near(4+4i), 5), discOp(500, 0.25), discOp(500i, 0.25), discOp(-500, 0.25))
}

func TestLimitsOfScenes(t *testing.T) {
	s := manyCells()
	cells, code := checkDrawing(t, s)
	wantNumber(t, "cells", int64(len(cells)), impl.MaxSpots)
	wantNumber(t, "code of DrawScene", code, impl.OK)
	s.Ops = append(s.Ops, discOp(100, 1), discOp(0.5, 2))
	cells, _ = checkDrawing(t, s)
	wantNumber(t, "cells that come again", int64(len(cells)), impl.MaxSpots)
	for i := range s.Ops {
		more := copyOfScene(s)
		more.Ops = slices.Insert(more.Ops, i, discOp(200, 0.5))
		checkDrawing(t, more)
		wantCodes(t, "a cell more", more, impl.ErrLimit, impl.ErrLimit, impl.OK)
	}
	wantCodes(t, "a great disc", sceneOf(1, discOp(0, 24)), impl.ErrLimit, impl.ErrLimit, impl.OK)
	s = manyBlocks()
	checkDrawing(t, s)
	blocks, code := impl.DrawScene(s)
	wantNumber(t, "blocks", int64(len(blocks)), impl.MaxBlocks)
	wantNumber(t, "code of DrawScene", code, impl.OK)
	s.Ops = append(s.Ops, discOp(-500i, 0.25))
	cells, _ = checkDrawing(t, s)
	wantNumber(t, "cells of too many blocks", int64(len(cells)), 65)
	wantCodes(t, "a block more", s, impl.OK, impl.ErrLimit, impl.OK)
	checkDrawing(t, sceneOf(1, orbitOp(shifts(16, 16i), near(0), 6)))
}

// wantCodes checks the codes of CellsOfScene and of DrawScene, and that of ProofOf of a cell that is there.
func wantCodes(t *testing.T, name string, s impl.Scene, cellsCode, drawCode, proofCode int64) {
	t.Helper()
	_, code := impl.CellsOfScene(s)
	wantNumber(t, "CellsOfScene with "+name, code, cellsCode)
	_, code = impl.DrawBlock(s, impl.Corner{})
	wantNumber(t, "DrawBlock with "+name, code, cellsCode)
	_, code = impl.DrawScene(s)
	wantNumber(t, "DrawScene with "+name, code, drawCode)
	_, code = impl.CornersOfScene(s)
	wantNumber(t, "CornersOfScene with "+name, code, drawCode)
	x := s.Ops[0].Centre
	if s.Ops[0].Kind != impl.OpDisc {
		x = s.Ops[0].Spot.At
	}
	c, _ := impl.CellOf(x, s.Side)
	_, code = impl.ProofOf(s, c)
	wantNumber(t, "ProofOf with "+name, code, proofCode)
}

// An operation that fails is found wherever it stands.
func TestFailingOperations(t *testing.T) {
	failing := []impl.Op{discOp(0, 100), discOp(1e30, 1), orbitOp(shifts(1, 2), near(0), 7), limitOp(shifts(1, 2), near(0), 7), leavesOp(shifts(1, 2), 0, 0.5, 8), leavesOp(familyOf(impl.Map{A: 0x1p100, D: 0x1p-100}), 0, 0.5, 1)}
	sound := everyKind().Ops
	for i, o := range failing {
		for _, other := range failing {
			for _, ops := range [][]impl.Op{{o}, {sound[3], o}, {o, sound[3]}, {sound[0], sound[1], o, sound[2]}, {o, other}, {sound[3], o, sound[0], other}} {
				s := sceneOf(1, ops...)
				wantCodes(t, fmt.Sprint("failing operation ", i), s, impl.ErrLimit, impl.ErrLimit, impl.ErrLimit)
				// That a cell has an earlier proof does not help.
				cells, _ := impl.CellsOfScene(sceneOf(1, sound[3]))
				proof, code := impl.ProofOf(s, cells[0])
				wantProof(t, "ProofOf", proof, code, impl.Proof{}, impl.ErrLimit)
			}
		}
	}
}

func TestDrawBlockOfCorners(t *testing.T) {
	s := sceneOf(1, discOp(0, 1), discOp(-16-16i, 0.5), discOp(1e6-1e6i, 1))
	cases := map[impl.Corner]impl.Mask{
		{0, 0}: {3, 1}, {-1, 0}: {0x8000}, {0, -1}: {15: 1}, {-1, -1}: {1}, {62500, -62500}: {1, 1}, {62499, -62500}: {0x8000},
		{1, 1}: {}, {-2, 0}: {}, {62500, 62500}: {}, {62500, -62501}: {}, {math.MaxInt32, math.MaxInt32}: {}, {math.MinInt32, math.MinInt32}: {}, {1 << 28, 0}: {}, {-1 << 28, 1 << 28}: {}, {65536, 0}: {},
	}
	for at, want := range cases {
		m, code := impl.DrawBlock(s, at)
		wantMask(t, fmt.Sprint("DrawBlock ", at), m, code, want, impl.OK)
		m, code = impl.DrawBlock(sceneOf(1), at)
		wantMask(t, "DrawBlock of nothing", m, code, impl.Mask{}, impl.OK)
	}
}
