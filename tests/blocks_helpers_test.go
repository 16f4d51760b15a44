package tests

import (
	"math"
	"math/rand"
	"slices"
	"sort"
	"testing"

	"loop.example/g01171/impl"
)

// cellSet has cells by their columns and rows, so that masks and pictures can be made without the program.
type cellSet map[[2]int64]bool

func setOf(cells ...[2]int32) cellSet {
	s := cellSet{}
	for _, c := range cells {
		s[[2]int64{int64(c[0]), int64(c[1])}] = true
	}
	return s
}

// setOfBlocks has all cells that are set, be the blocks a picture or not.
func setOfBlocks(list []impl.Block) cellSet {
	s := cellSet{}
	for _, b := range list {
		for y, row := range b.Mask {
			for x := range 16 {
				if row&(1<<x) != 0 {
					s[[2]int64{16*int64(b.At[0]) + int64(x), 16*int64(b.At[1]) + int64(y)}] = true
				}
			}
		}
	}
	return s
}

func setOfMask(m impl.Mask) cellSet { return setOfBlocks([]impl.Block{{Mask: m}}) }

// maskOfSet leaves out what is no cell of a mask.
func maskOfSet(s cellSet) impl.Mask {
	var m impl.Mask
	for c := range s {
		if c[0] >= 0 && c[0] <= 15 && c[1] >= 0 && c[1] <= 15 {
			m[c[1]] |= 1 << c[0]
		}
	}
	return m
}

// picked has the cells that are such.
func (s cellSet) picked(isSuch func(x, y int64) bool) cellSet {
	kept := cellSet{}
	for c := range s {
		if isSuch(c[0], c[1]) {
			kept[c] = true
		}
	}
	return kept
}

// moved has the cells to which those of a set are taken.
func (s cellSet) moved(to func(x, y int64) [2]int64) cellSet {
	other := cellSet{}
	for c := range s {
		other[to(c[0], c[1])] = true
	}
	return other
}

// inRows tells the cells, ordered by their rows, and then by their columns.
func (s cellSet) inRows() [][2]int32 {
	var cells [][2]int32
	for c := range s {
		cells = append(cells, [2]int32{int32(c[0]), int32(c[1])})
	}
	sort.Slice(cells, func(i, j int) bool {
		a, b := cells[i], cells[j]
		return a[1] < b[1] || a[1] == b[1] && a[0] < b[0]
	})
	return cells
}

// blockNumber tells the number of the block of a column or a row.
func blockNumber(n int64) int32 { return int32(math.Floor(float64(n) / 16)) }

// pictureOfSet tells the blocks of cells in the order of pictures.
func pictureOfSet(s cellSet) []impl.Block {
	parts := map[[2]int32]cellSet{}
	for c := range s {
		at := [2]int32{blockNumber(c[0]), blockNumber(c[1])}
		if parts[at] == nil {
			parts[at] = cellSet{}
		}
		parts[at][[2]int64{c[0] - 16*int64(at[0]), c[1] - 16*int64(at[1])}] = true
	}
	var list []impl.Block
	for at, part := range parts {
		list = append(list, impl.Block{At: at, Mask: maskOfSet(part)})
	}
	sort.Slice(list, func(i, j int) bool {
		a, b := list[i].At, list[j].At
		return a[1] < b[1] || a[1] == b[1] && a[0] < b[0]
	})
	return list
}

func wantMask(t *testing.T, name string, got impl.Mask, code int64, want impl.Mask, wantCode int64) {
	t.Helper()
	if got != want || code != wantCode {
		t.Errorf("%s: got %04x and %s, want %04x and %s", name, got, impl.CodeName(code), want, impl.CodeName(wantCode))
	}
}

func wantCells(t *testing.T, name string, got [][2]int32, code int64, want [][2]int32, wantCode int64) {
	t.Helper()
	if !slices.Equal(got, want) || code != wantCode {
		t.Errorf("%s: got %v and %s, want %v and %s", name, got, impl.CodeName(code), want, impl.CodeName(wantCode))
	}
}

func wantPicture(t *testing.T, name string, got []impl.Block, code int64, want []impl.Block, wantCode int64) {
	t.Helper()
	if !slices.Equal(got, want) || code != wantCode {
		t.Errorf("%s: got %04x and %s, want %04x and %s", name, got, impl.CodeName(code), want, impl.CodeName(wantCode))
	}
}

func wantCounts(t *testing.T, name string, got []int64, code int64, want []int64, wantCode int64) {
	t.Helper()
	if !slices.Equal(got, want) || code != wantCode {
		t.Errorf("%s: got %v and %s, want %v and %s", name, got, impl.CodeName(code), want, impl.CodeName(wantCode))
	}
}

// filled tells the cells of an upright rectangle, its corners included.
func filled(left, low, right, high int32) [][2]int32 {
	var cells [][2]int32
	for y := low; y <= high; y++ {
		for x := left; x <= right; x++ {
			cells = append(cells, [2]int32{x, y})
		}
	}
	return cells
}

func fullMask() impl.Mask { return maskOfSet(setOf(filled(0, 0, 15, 15)...)) }

// edgeMasks have no cell, one in each corner or at other places, single rows and columns, every other cell, and all.
func edgeMasks() []impl.Mask {
	list := []impl.Mask{{}, fullMask(), {0: 3}, {15: 0x8000, 0: 1}}
	for _, c := range [][2]int32{{0, 0}, {15, 0}, {0, 15}, {15, 15}, {1, 2}, {14, 3}, {8, 7}} {
		one := maskOfSet(setOf(c))
		list = append(list, one, impl.MinusMasks(fullMask(), one))
	}
	for _, n := range []int32{0, 7, 15} {
		list = append(list, maskOfSet(setOf(filled(0, n, 15, n)...)), maskOfSet(setOf(filled(n, 0, n, 15)...)))
	}
	everyOther := setOf(filled(0, 0, 15, 15)...).picked(func(x, y int64) bool { return (x+y)%2 == 0 })
	return append(list, maskOfSet(everyOther), impl.MinusMasks(fullMask(), maskOfSet(everyOther)))
}

// randomMask has few cells, many, or about half of all.
func randomMask(random *rand.Rand) impl.Mask {
	var m impl.Mask
	percent := []int{1, 10, 50, 90, 99}[random.Intn(5)]
	for y := range m {
		for x := range 16 {
			if random.Intn(100) < percent {
				m[y] |= 1 << x
			}
		}
	}
	return m
}

func manyMasks(random *rand.Rand, n int) []impl.Mask {
	list := edgeMasks()
	for range n {
		list = append(list, randomMask(random))
	}
	return list
}

// farNumbers are no columns and no rows, neither of masks nor of pictures.
func farNumbers() []int64 {
	return []int64{-1000001, 1000001, math.MaxInt32, math.MinInt32, 1 << 32, 1<<32 + 1, -1 << 32, math.MaxInt64, math.MinInt64, math.MinInt64 + 1, math.MaxInt64 - 15}
}

// randomCells lie in few blocks, around 0 or around a corner of all that pictures may have.
func randomCells(random *rand.Rand, n int) [][2]int32 {
	span := int32(3 + random.Intn(60))
	from := [][2]int32{{-span / 2, -span / 2}, {0, 0}, {impl.MaxColumn + 1 - span, -impl.MaxColumn}, {-impl.MaxColumn, impl.MaxColumn + 1 - span}, {-span, 5}, {-16, -16}}[random.Intn(6)]
	cells := make([][2]int32, n)
	for i := range cells {
		cells[i] = [2]int32{from[0] + random.Int31n(span), from[1] + random.Int31n(span)}
	}
	return cells
}

// randomPicture may have no cells, and as many as are in the blocks of randomCells.
func randomPicture(random *rand.Rand) []impl.Block {
	n := []int{0, 1, 5, 40, 300, 1500}[random.Intn(6)]
	return pictureOfSet(setOf(randomCells(random, n)...))
}

// rowOfBlocks has so many blocks with the given mask, the corners of which are in square order from (i, j) on.
func rowOfBlocks(n int, i, j int32, m impl.Mask) []impl.Block {
	list := make([]impl.Block, n)
	for k := range list {
		list[k] = impl.Block{At: impl.Corner{i + int32(k%8), j + int32(k/8)}, Mask: m}
	}
	return list
}

// invalidPictures tells lists that are no pictures, by what is wrong with them.
func invalidPictures() map[string][]impl.Block {
	one, full := impl.Mask{7: 1 << 3}, fullMask()
	at := func(i, j int32, m impl.Mask) impl.Block { return impl.Block{At: impl.Corner{i, j}, Mask: m} }
	lists := map[string][]impl.Block{
		"an empty block":             {at(0, 0, impl.Mask{})},
		"an empty first block":       {at(0, 0, impl.Mask{}), at(1, 0, one)},
		"an empty last block":        {at(0, 0, one), at(1, 0, impl.Mask{})},
		"columns not in order":       {at(1, 0, one), at(0, 0, one)},
		"columns ahead of rows":      {at(0, 1, one), at(1, 0, one)},
		"rows not in order":          {at(0, 1, one), at(0, 0, one)},
		"negative rows not in order": {at(0, -1, one), at(0, -2, one)},
		"a corner twice":             {at(0, 0, one), at(0, 0, full)},
		"a block twice":              {at(0, 0, one), at(0, 0, one)},
		"a block twice at the end":   {at(-1, -1, one), at(0, 0, one), at(0, 0, one)},
		"too many blocks":            rowOfBlocks(impl.MaxBlocks+1, -4, -4, one),
		"very many blocks":           rowOfBlocks(100000, 0, 0, one),
		"no cell on the left":        {at(-62501, 0, maskOfSet(setOf([2]int32{15, 15})))},
		"no cell below":              {at(0, -62501, maskOfSet(setOf([2]int32{15, 15})))},
		"no cell on the right":       {at(62500, 0, maskOfSet(setOf([2]int32{1, 0})))},
		"no cell above":              {at(0, 62500, maskOfSet(setOf([2]int32{0, 1})))},
		"some cells and no cell":     {at(62500, 0, maskOfSet(setOf([2]int32{0, 0}, [2]int32{0, 9}, [2]int32{15, 15})))},
		"no cell in the last block":  {at(0, 0, one), at(0, 62500, full)},
		"far on the right":           {at(62501, 0, maskOfSet(setOf([2]int32{0, 0})))},
	}
	// 16 times some of these, as 32 bits, are columns of pictures.
	for _, n := range []int32{math.MaxInt32, math.MinInt32, 1 << 28, 1<<28 + 3, -1 << 28, 1<<28 - 1, 1 << 27, -1 << 27, 1 << 30, 5 - 1<<30} {
		lists["far column "+string(rune('A'+len(lists)))] = []impl.Block{at(n, 0, one)}
		lists["far row "+string(rune('A'+len(lists)))] = []impl.Block{at(0, n, one)}
	}
	return lists
}

// guardedBlocks returns a list with room behind it, and a function that reports whether list and room are as before.
func guardedBlocks(list []impl.Block) ([]impl.Block, func() bool) {
	whole := append(slices.Clone(list), rowOfBlocks(16, 77, 78, impl.Mask{79})...)
	before := slices.Clone(whole)
	return whole[:len(list)], func() bool { return slices.Equal(whole, before) }
}

// guardedCells does the same for cells.
func guardedCells(list [][2]int32) ([][2]int32, func() bool) {
	whole := append(slices.Clone(list), filled(70, 70, 73, 73)...)
	before := slices.Clone(whole)
	return whole[:len(list)], func() bool { return slices.Equal(whole, before) }
}
