package tests

import (
	"math"
	"math/rand"
	"slices"
	"testing"

	"loop.example/g01171/impl"
)

// wantNoPicture checks that all functions of pictures return ErrInvalid first, also where other errors would follow.
func wantNoPicture(t *testing.T, name string, list []impl.Block) {
	t.Helper()
	one := []impl.Block{{Mask: impl.Mask{1}}}
	wantBool(t, "ValidPicture of "+name, impl.ValidPicture(list), 0, false, 0)
	cells, code := impl.CellsOfPicture(list)
	wantCells(t, "CellsOfPicture of "+name, cells, code, nil, impl.ErrInvalid)
	count, code := impl.CountPicture(list)
	wantCount(t, "CountPicture of "+name, count, code, 0, impl.ErrInvalid)
	low, high, code := impl.FrameOf(list)
	wantFrame(t, "FrameOf "+name, low, high, code, impl.Corner{}, impl.Corner{}, impl.ErrInvalid)
	for _, corners := range []bool{false, true} {
		for _, c := range [][2]int64{{0, 0}, {3, 7}, {-1000001, 0}, {0, math.MaxInt64}} {
			has, code := impl.PictureHas(list, c[0], c[1])
			wantBool(t, "PictureHas of "+name, has, code, false, impl.ErrInvalid)
			piece, code := impl.PieceOf(list, c[0], c[1], corners)
			wantPicture(t, "PieceOf "+name, piece, code, nil, impl.ErrInvalid)
		}
		counts, code := impl.PiecesOf(list, corners)
		wantCounts(t, "PiecesOf "+name, counts, code, nil, impl.ErrInvalid)
	}
	edge, code := impl.EdgeOf(list)
	wantPicture(t, "EdgeOf "+name, edge, code, nil, impl.ErrInvalid)
	for _, two := range [][2][]impl.Block{{list, one}, {one, list}, {list, list}, {list, nil}, {nil, list}, {rowOfBlocks(64, 5, 5, one[0].Mask), list}} {
		for _, f := range []func(a, b []impl.Block) ([]impl.Block, int64){impl.JoinPictures, impl.MeetPictures, impl.MinusPictures} {
			got, code := f(two[0], two[1])
			wantPicture(t, "two with "+name, got, code, nil, impl.ErrInvalid)
		}
	}
}

func wantFrame(t *testing.T, name string, low, high impl.Corner, code int64, wantLow, wantHigh impl.Corner, wantCode int64) {
	t.Helper()
	if low != wantLow || high != wantHigh || code != wantCode {
		t.Errorf("%s: got %v, %v and %s, want %v, %v and %s", name, low, high, impl.CodeName(code), wantLow, wantHigh, impl.CodeName(wantCode))
	}
}

func wantBlockAt(t *testing.T, x, y int64, want impl.Corner, wantColumn, wantRow, wantCode int64) {
	t.Helper()
	at, column, row, code := impl.BlockAt(x, y)
	if at != want || column != wantColumn || row != wantRow || code != wantCode {
		t.Errorf("BlockAt %d, %d: got %v, %d, %d and %s, want %v, %d, %d and %s", x, y, at, column, row, impl.CodeName(code), want, wantColumn, wantRow, impl.CodeName(wantCode))
	}
}

func TestBlockAt(t *testing.T) {
	numbers := []struct {
		n     int64
		block int32
		rest  int64
	}{
		{-1000000, -62500, 0}, {-999999, -62500, 1}, {-999985, -62500, 15}, {-999984, -62499, 0}, {-33, -3, 15}, {-32, -2, 0}, {-18, -2, 14}, {-17, -2, 15}, {-16, -1, 0}, {-15, -1, 1}, {-2, -1, 14}, {-1, -1, 15},
		{0, 0, 0}, {1, 0, 1}, {15, 0, 15}, {16, 1, 0}, {17, 1, 1}, {31, 1, 15}, {32, 2, 0}, {999999, 62499, 15}, {1000000, 62500, 0},
	}
	for _, x := range numbers {
		for _, y := range numbers {
			wantBlockAt(t, x.n, y.n, impl.Corner{x.block, y.block}, x.rest, y.rest, impl.OK)
		}
	}
	random := rand.New(rand.NewSource(520))
	for range 2000 {
		x, y := random.Int63n(2000001)-1000000, random.Int63n(2000001)-1000000
		at := impl.Corner{blockNumber(x), blockNumber(y)}
		wantBlockAt(t, x, y, at, x-16*int64(at[0]), y-16*int64(at[1]), impl.OK)
	}
	for _, far := range farNumbers() {
		for _, c := range [][2]int64{{far, 0}, {0, far}, {far, far}, {far, -1000000}, {1000000, far}} {
			wantBlockAt(t, c[0], c[1], impl.Corner{}, 0, 0, impl.ErrRange)
		}
	}
}

func TestValidPicture(t *testing.T) {
	one, full := impl.Mask{7: 1 << 3}, fullMask()
	at := func(i, j int32, m impl.Mask) impl.Block { return impl.Block{At: impl.Corner{i, j}, Mask: m} }
	lists := [][]impl.Block{
		nil, {}, {at(0, 0, one)}, {at(0, 0, one), at(1, 0, one)}, {at(1, 0, one), at(0, 1, one)}, {at(0, -1, full), at(-1, 0, one), at(0, 0, full)},
		rowOfBlocks(impl.MaxBlocks, -4, -4, one), rowOfBlocks(impl.MaxBlocks, -4, -4, full), rowOfBlocks(impl.MaxBlocks-1, 62490, 0, one),
		{at(-62500, -62500, full)}, {at(62499, 62499, full)}, {at(62500, 62500, impl.Mask{1})},
		{at(62500, 0, maskOfSet(setOf(filled(0, 0, 0, 15)...)))}, {at(0, 62500, impl.Mask{0xffff})}, {at(-62500, 62500, impl.Mask{0xffff}), at(62500, 62500, impl.Mask{1})},
	}
	for _, list := range lists {
		wantBool(t, "ValidPicture", impl.ValidPicture(list), 0, true, 0)
		count, code := impl.CountPicture(list)
		wantCount(t, "CountPicture", count, code, int64(len(setOfBlocks(list))), impl.OK)
	}
	for name, list := range invalidPictures() {
		wantNoPicture(t, name, list)
	}
}

// In blocks at the greatest corners, only some cells are those of pictures.
func TestCellsOfPicturesAtTheEnds(t *testing.T) {
	for _, corner := range []impl.Corner{{62500, 62500}, {62500, 3}, {3, 62500}, {-62500, -62500}, {-62501, 3}, {3, -62501}, {62501, 3}, {-62500, 62500}} {
		for _, c := range filled(0, 0, 15, 15) {
			x, y := 16*int64(corner[0])+int64(c[0]), 16*int64(corner[1])+int64(c[1])
			want := max(x, -x) <= 1000000 && max(y, -y) <= 1000000
			list := []impl.Block{{At: corner, Mask: maskOfSet(setOf(c))}}
			wantBool(t, "ValidPicture of one cell", impl.ValidPicture(list), 0, want, 0)
		}
	}
}

func TestSamePicture(t *testing.T) {
	random := rand.New(rand.NewSource(521))
	for range 200 {
		list := randomPicture(random)
		copied := slices.Clone(list)
		wantBool(t, "SamePicture", impl.SamePicture(list, copied), 0, true, 0)
		if len(list) == 0 {
			continue
		}
		i := random.Intn(len(list))
		copied[i].Mask[random.Intn(16)] ^= 1 << random.Intn(16)
		wantBool(t, "SamePicture with another cell", impl.SamePicture(list, copied), 0, false, 0)
		copied[i] = list[i]
		copied[i].At[random.Intn(2)]++
		wantBool(t, "SamePicture with another corner", impl.SamePicture(list, copied), 0, false, 0)
		wantBool(t, "SamePicture with less", impl.SamePicture(list, list[:len(list)-1]), 0, false, 0)
		wantBool(t, "SamePicture with more", impl.SamePicture(list[1:], list), 0, false, 0)
	}
	wantBool(t, "no list and an empty one", impl.SamePicture(nil, []impl.Block{}), 0, true, 0)
	wantBool(t, "nothing and an empty block", impl.SamePicture(nil, []impl.Block{{}}), 0, false, 0)
	for name, list := range invalidPictures() {
		wantBool(t, "SamePicture of "+name, impl.SamePicture(list, slices.Clone(list)), 0, true, 0)
		wantBool(t, "SamePicture of other than "+name, impl.SamePicture(list, append(slices.Clone(list), list[0])), 0, false, 0)
	}
	a, b := impl.Block{Mask: impl.Mask{1}}, impl.Block{At: impl.Corner{1, 0}, Mask: impl.Mask{1}}
	wantBool(t, "SamePicture in another order", impl.SamePicture([]impl.Block{a, b}, []impl.Block{b, a}), 0, false, 0)
}

func TestPictureOf(t *testing.T) {
	random := rand.New(rand.NewSource(522))
	for range 500 {
		cells := randomCells(random, random.Intn(impl.MaxSpots+1))
		want := pictureOfSet(setOf(cells...))
		list, code := impl.PictureOf(cells)
		wantPicture(t, "PictureOf", list, code, want, impl.OK)
		wantBool(t, "ValidPicture of PictureOf", impl.ValidPicture(list), 0, true, 0)
		back, code := impl.CellsOfPicture(list)
		wantCells(t, "CellsOfPicture of PictureOf", back, code, setOf(cells...).inRows(), impl.OK)
		random.Shuffle(len(cells), func(i, j int) { cells[i], cells[j] = cells[j], cells[i] })
		list, code = impl.PictureOf(append(cells[:len(cells):len(cells)], cells[:min(len(cells), impl.MaxSpots-len(cells))]...))
		wantPicture(t, "PictureOf with cells twice", list, code, want, impl.OK)
	}
}

func TestPictureOfEdges(t *testing.T) {
	at := func(i, j int32, m impl.Mask) impl.Block { return impl.Block{At: impl.Corner{i, j}, Mask: m} }
	cases := []struct {
		cells [][2]int32
		want  []impl.Block
	}{
		{nil, nil},
		{[][2]int32{}, nil},
		{[][2]int32{{0, 0}}, []impl.Block{at(0, 0, impl.Mask{1})}},
		{[][2]int32{{-1, -1}}, []impl.Block{at(-1, -1, impl.Mask{15: 0x8000})}},
		{[][2]int32{{-16, -17}}, []impl.Block{at(-1, -2, impl.Mask{15: 1})}},
		{[][2]int32{{16, 0}, {15, 0}, {-1, 0}, {0, 16}, {0, -1}}, []impl.Block{at(0, -1, impl.Mask{15: 1}), at(-1, 0, impl.Mask{0x8000}), at(0, 0, impl.Mask{0x8000}), at(1, 0, impl.Mask{1}), at(0, 1, impl.Mask{1})}},
		{[][2]int32{{1000000, -1000000}, {-1000000, 1000000}}, []impl.Block{at(62500, -62500, impl.Mask{1}), at(-62500, 62500, impl.Mask{1})}},
		{[][2]int32{{5, 6}, {5, 6}, {4, 6}, {5, 6}}, []impl.Block{at(0, 0, impl.Mask{6: 0x30})}},
		{slices.Repeat([][2]int32{{-3, 2}}, impl.MaxSpots), []impl.Block{at(-1, 0, impl.Mask{2: 0x2000})}},
	}
	for _, c := range cases {
		list, code := impl.PictureOf(c.cells)
		wantPicture(t, "PictureOf", list, code, c.want, impl.OK)
	}
}

// spread tells so many cells, each in a block of its own.
func spread(n int) [][2]int32 {
	var cells [][2]int32
	for k := range int32(n) {
		cells = append(cells, [2]int32{16*(k%9) - 70, 16*(k/9) - 50})
	}
	return cells
}

func TestPictureOfLimits(t *testing.T) {
	most, more := spread(impl.MaxBlocks), spread(impl.MaxBlocks+1)
	list, code := impl.PictureOf(most)
	wantPicture(t, "PictureOf MaxBlocks", list, code, pictureOfSet(setOf(most...)), impl.OK)
	wantNumber(t, "blocks", int64(len(list)), impl.MaxBlocks)
	list, code = impl.PictureOf(slices.Concat(most, most, most))
	wantPicture(t, "PictureOf MaxBlocks three times", list, code, pictureOfSet(setOf(most...)), impl.OK)
	list, code = impl.PictureOf(more)
	wantPicture(t, "PictureOf one block more", list, code, nil, impl.ErrLimit)
	full := filled(-16, -16, 15, 15)
	wantNumber(t, "cells", int64(len(full)), impl.MaxSpots)
	list, code = impl.PictureOf(full)
	wantPicture(t, "PictureOf MaxSpots", list, code, pictureOfSet(setOf(full...)), impl.OK)
	list, code = impl.PictureOf(append(full, [2]int32{}))
	wantPicture(t, "PictureOf one cell more", list, code, nil, impl.ErrLimit)
	for _, n := range []int32{1000001, -1000001, 1000016, -1000016, math.MaxInt32, math.MinInt32, math.MaxInt32 - 15, 1 << 24} {
		for _, c := range [][2]int32{{n, 0}, {0, n}, {n, n}, {-1000000, n}, {n, 1000000}} {
			for _, cells := range [][][2]int32{{c}, {c, {1, 1}}, {{1, 1}, c}, append(slices.Clone(more), c), append([][2]int32{c}, more...), append(slices.Clone(full[1:]), c)} {
				list, code := impl.PictureOf(cells)
				wantPicture(t, "PictureOf no cell", list, code, nil, impl.ErrRange)
			}
			list, code := impl.PictureOf(append(slices.Clone(full), c))
			wantPicture(t, "PictureOf too many and no cell", list, code, nil, impl.ErrLimit)
		}
	}
}

func TestCellsOfPicture(t *testing.T) {
	random := rand.New(rand.NewSource(523))
	for range 300 {
		list := randomPicture(random)
		set := setOfBlocks(list)
		cells, code := impl.CellsOfPicture(list)
		if len(set) > impl.MaxSpots {
			wantCells(t, "CellsOfPicture", cells, code, nil, impl.ErrLimit)
			continue
		}
		wantCells(t, "CellsOfPicture", cells, code, set.inRows(), impl.OK)
		back, code := impl.PictureOf(cells)
		wantPicture(t, "PictureOf CellsOfPicture", back, code, list, impl.OK)
	}
	full := filled(-16, -16, 15, 15)
	list := pictureOfSet(setOf(full...))
	cells, code := impl.CellsOfPicture(list)
	wantCells(t, "CellsOfPicture of MaxSpots", cells, code, full, impl.OK)
	more := pictureOfSet(setOf(append(full, [2]int32{500, 500})...))
	cells, code = impl.CellsOfPicture(more)
	wantCells(t, "CellsOfPicture of one more", cells, code, nil, impl.ErrLimit)
	count, code := impl.CountPicture(more)
	wantCount(t, "CountPicture of one more", count, code, impl.MaxSpots+1, impl.OK)
	all := rowOfBlocks(impl.MaxBlocks, -4, -4, fullMask())
	count, code = impl.CountPicture(all)
	wantCount(t, "CountPicture of all", count, code, 64*256, impl.OK)
	cells, code = impl.CellsOfPicture(all)
	wantCells(t, "CellsOfPicture of all", cells, code, nil, impl.ErrLimit)
	// Rows go through all blocks beside each other.
	list = pictureOfSet(setOf([2]int32{-1, 1}, [2]int32{20, 0}, [2]int32{-20, 0}, [2]int32{3, 1}, [2]int32{3, -1}))
	cells, code = impl.CellsOfPicture(list)
	wantCells(t, "order of cells", cells, code, [][2]int32{{3, -1}, {-20, 0}, {20, 0}, {-1, 1}, {3, 1}}, impl.OK)
}

func TestPictureHas(t *testing.T) {
	random := rand.New(rand.NewSource(524))
	for range 40 {
		list := randomPicture(random)
		set := setOfBlocks(list)
		for c := range set {
			for _, next := range [][2]int64{c, {c[0] + 1, c[1]}, {c[0], c[1] - 1}, {c[0] - 16, c[1]}, {c[1], c[0]}, {-c[0], c[1]}} {
				want, wantCode := set[next], int64(impl.OK)
				if max(next[0], -next[0], next[1], -next[1]) > impl.MaxColumn {
					wantCode = impl.ErrRange
				}
				has, code := impl.PictureHas(list, next[0], next[1])
				wantBool(t, "PictureHas", has, code, want, wantCode)
			}
		}
	}
	list := pictureOfSet(setOf([2]int32{0, 0}, [2]int32{15, 15}, [2]int32{1000000, 1000000}, [2]int32{-1000000, -1000000}))
	for _, far := range farNumbers() {
		for _, c := range [][2]int64{{far, 0}, {0, far}, {far, far}, {far, 1000000}, {-1000000, far}} {
			for _, any := range [][]impl.Block{nil, list} {
				has, code := impl.PictureHas(any, c[0], c[1])
				wantBool(t, "PictureHas outside", has, code, false, impl.ErrRange)
			}
		}
	}
	for _, n := range []int64{-1000000, 1000000, 0, 15} {
		has, code := impl.PictureHas(list, n, n)
		wantBool(t, "PictureHas", has, code, true, impl.OK)
		has, code = impl.PictureHas(list, n, -n)
		wantBool(t, "PictureHas of another one", has, code, n == 0, impl.OK)
		has, code = impl.PictureHas(nil, n, n)
		wantBool(t, "PictureHas of nothing", has, code, false, impl.OK)
	}
}

func TestFrameOf(t *testing.T) {
	random := rand.New(rand.NewSource(525))
	for range 300 {
		list := randomPicture(random)
		low, high, code := impl.FrameOf(list)
		cells := setOfBlocks(list).inRows()
		if len(cells) == 0 {
			wantFrame(t, "FrameOf nothing", low, high, code, impl.Corner{}, impl.Corner{}, impl.ErrNotFound)
			continue
		}
		slices.SortFunc(cells, func(a, b [2]int32) int { return int(a[0] - b[0]) })
		left, right := cells[0][0], cells[len(cells)-1][0]
		slices.SortFunc(cells, func(a, b [2]int32) int { return int(a[1] - b[1]) })
		wantFrame(t, "FrameOf", low, high, code, impl.Corner{left, cells[0][1]}, impl.Corner{right, cells[len(cells)-1][1]}, impl.OK)
	}
	for _, c := range [][2]int32{{0, 0}, {5, 9}, {-1, -1}, {-16, -17}, {-5, 1000}, {1000000, -1000000}} {
		low, high, code := impl.FrameOf(pictureOfSet(setOf(c)))
		wantFrame(t, "FrameOf one cell", low, high, code, c, c, impl.OK)
	}
	low, high, code := impl.FrameOf(pictureOfSet(setOf([2]int32{-20, -3}, [2]int32{-17, -40}, [2]int32{-18, -2})))
	wantFrame(t, "FrameOf negative cells", low, high, code, impl.Corner{-20, -40}, impl.Corner{-17, -2}, impl.OK)
	low, high, code = impl.FrameOf(pictureOfSet(setOf([2]int32{7, 3}, [2]int32{4, 8})))
	wantFrame(t, "FrameOf positive cells", low, high, code, impl.Corner{4, 3}, impl.Corner{7, 8}, impl.OK)
	low, high, code = impl.FrameOf(rowOfBlocks(impl.MaxBlocks, -4, -4, fullMask()))
	wantFrame(t, "FrameOf all", low, high, code, impl.Corner{-64, -64}, impl.Corner{63, 63}, impl.OK)
}
