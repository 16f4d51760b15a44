package tests

import (
	"math"
	"math/rand"
	"slices"
	"testing"

	"loop.example/g01171/impl"
)

// besideForTest tells the cells beside one.
func besideForTest(c [2]int64, corners bool) [][2]int64 {
	var list [][2]int64
	for dx := int64(-1); dx <= 1; dx++ {
		for dy := int64(-1); dy <= 1; dy++ {
			if size := max(dx, -dx) + max(dy, -dy); size == 1 || size == 2 && corners {
				list = append(list, [2]int64{c[0] + dx, c[1] + dy})
			}
		}
	}
	return list
}

// pieceForTest grows from one cell ring by ring.
func pieceForTest(s cellSet, start [2]int64, corners bool) cellSet {
	piece, ring := cellSet{start: true}, [][2]int64{start}
	for len(ring) > 0 {
		var next [][2]int64
		for _, c := range ring {
			for _, near := range besideForTest(c, corners) {
				if s[near] && !piece[near] {
					piece[near] = true
					next = append(next, near)
				}
			}
		}
		ring = next
	}
	return piece
}

// wantPieces checks all pieces of a picture, and that each has each of its cells, and returns the numbers of their cells.
func wantPieces(t *testing.T, list []impl.Block, corners bool) []int64 {
	t.Helper()
	set := setOfBlocks(list)
	met := cellSet{}
	var want []int64
	for _, c := range set.inRows() {
		start := [2]int64{int64(c[0]), int64(c[1])}
		if met[start] {
			continue
		}
		piece := pieceForTest(set, start, corners)
		want = append(want, int64(len(piece)))
		blocks := pictureOfSet(piece)
		asked := 0
		for from := range piece {
			met[from] = true
			if asked++; asked > 3 {
				continue
			}
			got, code := impl.PieceOf(list, from[0], from[1], corners)
			wantPicture(t, "PieceOf", got, code, blocks, impl.OK)
		}
	}
	got, code := impl.PiecesOf(list, corners)
	wantCounts(t, "PiecesOf", got, code, want, impl.OK)
	return got
}

func TestPieces(t *testing.T) {
	random := rand.New(rand.NewSource(540))
	several := 0
	for range 150 {
		list := randomPicture(random)
		without, with := wantPieces(t, list, false), wantPieces(t, list, true)
		if len(without) > len(with) && len(with) > 1 {
			several++
		}
	}
	if several < 20 {
		t.Errorf("only %d pictures have pieces of both kinds", several)
	}
}

func TestPiecesEdges(t *testing.T) {
	cases := []struct {
		name          string
		cells         [][2]int32
		without, with []int64
	}{
		{"nothing", nil, nil, nil},
		{"one cell", [][2]int32{{-1, -1}}, []int64{1}, []int64{1}},
		{"at a corner", [][2]int32{{0, 0}, {1, 1}}, []int64{1, 1}, []int64{2}},
		{"at the other corner", [][2]int32{{1, 0}, {0, 1}}, []int64{1, 1}, []int64{2}},
		{"beside in a row", [][2]int32{{3, 3}, {4, 3}}, []int64{2}, []int64{2}},
		{"beside in a column", [][2]int32{{3, 3}, {3, 4}}, []int64{2}, []int64{2}},
		{"a cell between in a row", [][2]int32{{3, 3}, {5, 3}}, []int64{1, 1}, []int64{1, 1}},
		{"a cell between in a column", [][2]int32{{3, 3}, {3, 5}}, []int64{1, 1}, []int64{1, 1}},
		{"as a knight goes", [][2]int32{{3, 3}, {4, 5}, {5, 4}}, []int64{1, 1, 1}, []int64{1, 2}},
		{"over the edge of a column of blocks", [][2]int32{{15, 3}, {16, 3}}, []int64{2}, []int64{2}},
		{"over the edge of a row of blocks", [][2]int32{{3, 15}, {3, 16}}, []int64{2}, []int64{2}},
		{"over 0", [][2]int32{{-1, 0}, {0, 0}, {0, -1}}, []int64{3}, []int64{3}},
		{"over 0 at corners", [][2]int32{{-1, -1}, {0, 0}}, []int64{1, 1}, []int64{2}},
		{"over 0 at the other corners", [][2]int32{{-1, 0}, {0, -1}}, []int64{1, 1}, []int64{2}},
		{"over a negative edge", [][2]int32{{-17, -16}, {-16, -16}, {-16, -17}}, []int64{3}, []int64{3}},
		{"over a negative edge at corners", [][2]int32{{-17, -17}, {-16, -16}, {-15, -17}}, []int64{1, 1, 1}, []int64{3}},
		{"both ends of a row of a block", [][2]int32{{0, 1}, {15, 0}, {31, 4}}, []int64{1, 1, 1}, []int64{1, 1, 1}},
		{"both ends of all rows", [][2]int32{{-1000000, 0}, {1000000, 0}, {1000000, 1}, {-1000000, -1}}, []int64{2, 2}, []int64{2, 2}},
		{"the corners of all cells", [][2]int32{{1000000, 1000000}, {-1000000, -1000000}, {999999, 999999}, {-1000000, 1000000}}, []int64{1, 1, 1, 1}, []int64{1, 2, 1}},
		{"a ring and a cell in it", append(slices.Concat(filled(-2, -2, 2, -2), filled(-2, -1, -2, 2), filled(2, -1, 2, 2), filled(-1, 2, 1, 2)), [2]int32{0, 0}), []int64{16, 1}, []int64{16, 1}},
		{"order of first cells", [][2]int32{{40, 0}, {-40, 1}, {-40, 2}, {41, 0}, {42, 0}, {5, -1}}, []int64{1, 3, 2}, []int64{1, 3, 2}},
		{"rows count ahead of blocks", [][2]int32{{0, 5}, {0, 6}, {20, 4}}, []int64{1, 2}, []int64{1, 2}},
		{"a full block", filled(0, 0, 15, 15), []int64{256}, []int64{256}},
		{"two full blocks at a corner", append(filled(-16, -16, -1, -1), filled(0, 0, 15, 15)...), []int64{256, 256}, []int64{512}},
		{"a U", slices.Concat(filled(0, 0, 0, 20), filled(20, 0, 20, 20), filled(0, 20, 20, 20)), []int64{61}, []int64{61}},
	}
	for _, c := range cases {
		list := pictureOfSet(setOf(c.cells...))
		wantCounts(t, c.name, wantPieces(t, list, false), 0, c.without, 0)
		wantCounts(t, c.name+" with corners", wantPieces(t, list, true), 0, c.with, 0)
	}
}

// snake is one way through all blocks of a picture, every other row of which has one cell.
func snake() []impl.Block {
	cells := setOf(filled(-64, -64, 63, 63)...).picked(func(x, y int64) bool {
		turn := int64(63)
		if (y+64)%4 == 3 {
			turn = -64
		}
		return y%2 == 0 || x == turn
	})
	return pictureOfSet(cells)
}

func TestPiecesOfGreatPictures(t *testing.T) {
	all := rowOfBlocks(impl.MaxBlocks, -4, -4, fullMask())
	everyOther := edgeMasks()[len(edgeMasks())-2]
	for _, corners := range []bool{false, true} {
		counts, code := impl.PiecesOf(all, corners)
		wantCounts(t, "PiecesOf all cells", counts, code, []int64{64 * 256}, impl.OK)
		piece, code := impl.PieceOf(all, -64, 63, corners)
		wantPicture(t, "PieceOf all cells", piece, code, all, impl.OK)
		counts, code = impl.PiecesOf(snake(), corners)
		wantCounts(t, "PiecesOf a snake", counts, code, []int64{64*128 + 64}, impl.OK)
		piece, code = impl.PieceOf(snake(), 63, -63, corners)
		wantPicture(t, "PieceOf a snake", piece, code, snake(), impl.OK)
	}
	list := rowOfBlocks(impl.MaxBlocks, -4, -4, everyOther)
	counts, code := impl.PiecesOf(list, false)
	wantCounts(t, "PiecesOf every other cell", counts, code, slices.Repeat([]int64{1}, 64*128), impl.OK)
	counts, code = impl.PiecesOf(list, true)
	wantCounts(t, "PiecesOf every other cell with corners", counts, code, []int64{64 * 128}, impl.OK)
}

func TestPieceOfOtherCells(t *testing.T) {
	list := pictureOfSet(setOf([2]int32{0, 0}, [2]int32{15, 15}, [2]int32{-1, -1}, [2]int32{1000000, 1000000}))
	for _, corners := range []bool{false, true} {
		for _, c := range [][2]int64{{1, 0}, {0, 1}, {16, 0}, {-1, 0}, {-2, -2}, {1000000, -1000000}, {-1000000, -1000000}, {999999, 1000000}, {500, 500}} {
			for _, any := range [][]impl.Block{nil, list} {
				piece, code := impl.PieceOf(any, c[0], c[1], corners)
				wantPicture(t, "PieceOf none of the picture", piece, code, nil, impl.ErrNotFound)
			}
		}
		for _, far := range farNumbers() {
			for _, c := range [][2]int64{{far, 0}, {0, far}, {far, far}, {1000000, far}, {far, -1000000}} {
				for _, any := range [][]impl.Block{nil, list} {
					piece, code := impl.PieceOf(any, c[0], c[1], corners)
					wantPicture(t, "PieceOf no cell", piece, code, nil, impl.ErrRange)
				}
			}
		}
	}
}

// Pieces have no cells in common, and are together the picture.
func TestPiecesAreThePicture(t *testing.T) {
	random := rand.New(rand.NewSource(541))
	for range 100 {
		list := randomPicture(random)
		for _, corners := range []bool{false, true} {
			counts, _ := impl.PiecesOf(list, corners)
			left, joined := list, []impl.Block(nil)
			for _, want := range counts {
				cells := setOfBlocks(left).inRows()
				piece, code := impl.PieceOf(list, int64(cells[0][0]), int64(cells[0][1]), corners)
				wantNumber(t, "code of PieceOf", code, impl.OK)
				count, code := impl.CountPicture(piece)
				wantCount(t, "cells of a piece", count, code, want, impl.OK)
				common, code := impl.MeetPictures(joined, piece)
				wantPicture(t, "cells of two pieces", common, code, nil, impl.OK)
				joined, _ = impl.JoinPictures(joined, piece)
				left, _ = impl.MinusPictures(left, piece)
			}
			wantPicture(t, "all pieces", joined, 0, list, 0)
			wantPicture(t, "what is left of all pieces", left, 0, nil, 0)
		}
	}
}

func edgeForTest(list []impl.Block) []impl.Block {
	set := setOfBlocks(list)
	return pictureOfSet(set.picked(func(x, y int64) bool {
		return !(set[[2]int64{x - 1, y}] && set[[2]int64{x + 1, y}] && set[[2]int64{x, y - 1}] && set[[2]int64{x, y + 1}])
	}))
}

func TestEdgeOf(t *testing.T) {
	random := rand.New(rand.NewSource(542))
	for range 200 {
		list := randomPicture(random)
		edge, code := impl.EdgeOf(list)
		wantPicture(t, "EdgeOf", edge, code, edgeForTest(list), impl.OK)
	}
	for range 100 {
		masks := make([]impl.Block, 0, 9)
		for _, c := range filled(-1, -1, 1, 1) {
			masks = append(masks, impl.Block{At: c, Mask: impl.JoinMasks(randomMask(random), impl.JoinMasks(randomMask(random), impl.Mask{1}))})
		}
		edge, code := impl.EdgeOf(masks)
		wantPicture(t, "EdgeOf dense blocks", edge, code, edgeForTest(masks), impl.OK)
	}
}

// frame tells the cells at the edge of an upright rectangle.
func frame(left, low, right, high int32) [][2]int32 {
	return slices.Concat(filled(left, low, right, low), filled(left, high, right, high), filled(left, low, left, high), filled(right, low, right, high))
}

func TestEdgeOfEdges(t *testing.T) {
	cases := []struct {
		name        string
		cells, want [][2]int32
	}{
		{"nothing", nil, nil},
		{"one cell", filled(-1, -1, -1, -1), filled(-1, -1, -1, -1)},
		{"two rows", filled(-5, 3, 30, 4), filled(-5, 3, 30, 4)},
		{"three by three", filled(-1, -1, 1, 1), frame(-1, -1, 1, 1)},
		{"a cross", [][2]int32{{0, 0}, {1, 0}, {-1, 0}, {0, 1}, {0, -1}}, [][2]int32{{1, 0}, {-1, 0}, {0, 1}, {0, -1}}},
		{"a full block", filled(0, 0, 15, 15), frame(0, 0, 15, 15)},
		{"a negative full block", filled(-16, -32, -1, -17), frame(-16, -32, -1, -17)},
		{"two blocks in a row", filled(0, 0, 31, 15), frame(0, 0, 31, 15)},
		{"two blocks in a column", filled(0, -16, 15, 15), frame(0, -16, 15, 15)},
		{"four blocks", filled(-16, -16, 15, 15), frame(-16, -16, 15, 15)},
		{"the greatest block", filled(999985, 999985, 1000000, 1000000), frame(999985, 999985, 1000000, 1000000)},
		{"the least block", filled(-1000000, -1000000, -999985, -999985), frame(-1000000, -1000000, -999985, -999985)},
		{"at the greatest column", filled(999998, 0, 1000000, 5), frame(999998, 0, 1000000, 5)},
		{"at the least row", filled(4, -1000000, 9, -999998), frame(4, -1000000, 9, -999998)},
		{"a hole", setOf(filled(-3, -3, 3, 3)...).picked(func(x, y int64) bool { return x != 0 || y != 0 }).inRows(), append(frame(-3, -3, 3, 3), [][2]int32{{1, 0}, {-1, 0}, {0, 1}, {0, -1}}...)},
	}
	for _, c := range cases {
		edge, code := impl.EdgeOf(pictureOfSet(setOf(c.cells...)))
		wantPicture(t, "EdgeOf "+c.name, edge, code, pictureOfSet(setOf(c.want...)), impl.OK)
	}
	all := rowOfBlocks(impl.MaxBlocks, -4, -4, fullMask())
	edge, code := impl.EdgeOf(all)
	wantPicture(t, "EdgeOf all", edge, code, pictureOfSet(setOf(frame(-64, -64, 63, 63)...)), impl.OK)
	_, code = impl.EdgeOf([]impl.Block{{At: impl.Corner{math.MinInt32, 0}, Mask: impl.Mask{1}}})
	wantNumber(t, "EdgeOf no picture", code, impl.ErrInvalid)
}
