package tests

import (
	"math"
	"math/rand"
	"slices"
	"testing"

	"loop.example/g01171/impl"
)

func TestMaskOf(t *testing.T) {
	random := rand.New(rand.NewSource(500))
	for range 500 {
		cells := make([][2]int32, random.Intn(400))
		for i := range cells {
			cells[i] = [2]int32{random.Int31n(16), random.Int31n(16)}
		}
		m, code := impl.MaskOf(cells)
		wantMask(t, "MaskOf", m, code, maskOfSet(setOf(cells...)), impl.OK)
	}
}

func TestMaskOfEdges(t *testing.T) {
	all := filled(0, 0, 15, 15)
	cases := []struct {
		name  string
		cells [][2]int32
		want  impl.Mask
	}{
		{"no cell", [][2]int32{}, impl.Mask{}},
		{"no list", nil, impl.Mask{}},
		{"first corner", [][2]int32{{0, 0}}, impl.Mask{1}},
		{"corner on the right", [][2]int32{{15, 0}}, impl.Mask{0x8000}},
		{"corner of the last row", [][2]int32{{0, 15}}, impl.Mask{15: 1}},
		{"last corner", [][2]int32{{15, 15}}, impl.Mask{15: 0x8000}},
		{"column and row", [][2]int32{{2, 5}}, impl.Mask{5: 4}},
		{"a cell twice", [][2]int32{{2, 5}, {3, 5}, {2, 5}}, impl.Mask{5: 12}},
		{"all", all, fullMask()},
		{"all four times", slices.Repeat(all, 4), fullMask()},
		{"one cell many times", slices.Repeat([][2]int32{{9, 1}}, impl.MaxSpots), impl.Mask{1: 0x200}},
	}
	for _, c := range cases {
		m, code := impl.MaskOf(c.cells)
		wantMask(t, c.name, m, code, c.want, impl.OK)
	}
	for corner, m := range map[[2]int32]uint16{{0, 0}: 1, {15, 15}: 0x8000} {
		got, _ := impl.MaskOf([][2]int32{corner})
		wantNumber(t, "the row of a corner", int64(got[corner[1]]), int64(m))
	}
}

func TestMaskOfNoCells(t *testing.T) {
	full := slices.Repeat([][2]int32{{0, 0}}, impl.MaxSpots)
	for _, n := range []int32{-1, 16, 17, 31, 32, -15, -16, -17, 256, 65536, 1 << 16, -1 << 16, math.MaxInt32, math.MinInt32, math.MaxInt32 - 15} {
		for _, c := range [][2]int32{{n, 0}, {0, n}, {n, n}, {n, 15}, {15, n}} {
			few := [][2]int32{{1, 1}, {2, 2}, {3, 3}}
			for place := range few {
				cells := slices.Clone(few)
				cells[place] = c
				m, code := impl.MaskOf(cells)
				wantMask(t, "MaskOf some cells and no cell", m, code, impl.Mask{}, impl.ErrRange)
			}
			cells := slices.Clone(full)
			cells[len(cells)-1] = c
			m, code := impl.MaskOf(cells)
			wantMask(t, "MaskOf MaxSpots with no cell", m, code, impl.Mask{}, impl.ErrRange)
			m, code = impl.MaskOf(append(cells, [2]int32{}))
			wantMask(t, "MaskOf more with no cell", m, code, impl.Mask{}, impl.ErrLimit)
		}
	}
	m, code := impl.MaskOf(full)
	wantMask(t, "MaskOf MaxSpots", m, code, impl.Mask{1}, impl.OK)
	m, code = impl.MaskOf(append(full, [2]int32{}))
	wantMask(t, "MaskOf one more", m, code, impl.Mask{}, impl.ErrLimit)
	m, code = impl.MaskOf(make([][2]int32, 500000))
	wantMask(t, "MaskOf very many", m, code, impl.Mask{}, impl.ErrLimit)
}

func TestCellsOf(t *testing.T) {
	random := rand.New(rand.NewSource(501))
	for _, m := range manyMasks(random, 300) {
		cells := impl.CellsOf(m)
		wantCells(t, "CellsOf", cells, 0, setOfMask(m).inRows(), 0)
		wantNumber(t, "CountCells", impl.CountCells(m), int64(len(setOfMask(m))))
		back, code := impl.MaskOf(cells)
		wantMask(t, "MaskOf CellsOf", back, code, m, impl.OK)
		slices.Reverse(cells)
		back, code = impl.MaskOf(cells)
		wantMask(t, "MaskOf CellsOf backwards", back, code, m, impl.OK)
	}
	wantCells(t, "order of cells", impl.CellsOf(impl.Mask{0: 0x8001, 3: 6, 15: 1}), 0, [][2]int32{{0, 0}, {15, 0}, {1, 3}, {2, 3}, {0, 15}}, 0)
	wantNumber(t, "no cells", impl.CountCells(impl.Mask{}), 0)
	wantNumber(t, "all cells", impl.CountCells(fullMask()), 256)
}

func TestSingleCells(t *testing.T) {
	random := rand.New(rand.NewSource(502))
	for _, m := range manyMasks(random, 30) {
		set := setOfMask(m)
		for y := range int64(16) {
			for x := range int64(16) {
				has, code := impl.HasCell(m, x, y)
				wantBool(t, "HasCell", has, code, set[[2]int64{x, y}], impl.OK)
				cell := maskOfSet(setOf([2]int32{int32(x), int32(y)}))
				with, code := impl.SetCell(m, x, y, true)
				wantMask(t, "SetCell", with, code, impl.JoinMasks(m, cell), impl.OK)
				again, code := impl.SetCell(with, x, y, true)
				wantMask(t, "SetCell twice", again, code, with, impl.OK)
				without, code := impl.SetCell(again, x, y, false)
				wantMask(t, "SetCell off", without, code, impl.MinusMasks(m, cell), impl.OK)
				again, code = impl.SetCell(without, x, y, false)
				wantMask(t, "SetCell off twice", again, code, without, impl.OK)
			}
		}
	}
	m, code := impl.SetCell(impl.Mask{4: 1}, 3, 4, true)
	wantMask(t, "column 3 of the row 4", m, code, impl.Mask{4: 9}, impl.OK)
	has, code := impl.HasCell(m, 3, 4)
	wantBool(t, "HasCell 3, 4", has, code, true, impl.OK)
	has, code = impl.HasCell(m, 4, 3)
	wantBool(t, "HasCell 4, 3", has, code, false, impl.OK)
}

func TestSingleCellsOutside(t *testing.T) {
	for _, n := range append(farNumbers(), -1, 16, 17, -16, 64, 65, 256, 1<<16) {
		for _, c := range [][2]int64{{n, 0}, {0, n}, {n, 15}, {15, n}, {n, n}} {
			for _, m := range []impl.Mask{{}, fullMask()} {
				has, code := impl.HasCell(m, c[0], c[1])
				wantBool(t, "HasCell outside", has, code, false, impl.ErrRange)
				for _, on := range []bool{false, true} {
					got, code := impl.SetCell(m, c[0], c[1], on)
					wantMask(t, "SetCell outside", got, code, impl.Mask{}, impl.ErrRange)
				}
			}
		}
	}
}

func TestTwoMasks(t *testing.T) {
	random := rand.New(rand.NewSource(503))
	list := manyMasks(random, 60)
	for _, a := range list {
		for _, b := range list {
			ofA, ofB := setOfMask(a), setOfMask(b)
			all := setOf(filled(0, 0, 15, 15)...)
			join := all.picked(func(x, y int64) bool { return ofA[[2]int64{x, y}] || ofB[[2]int64{x, y}] })
			wantMask(t, "JoinMasks", impl.JoinMasks(a, b), 0, maskOfSet(join), 0)
			meet := ofA.picked(func(x, y int64) bool { return ofB[[2]int64{x, y}] })
			wantMask(t, "MeetMasks", impl.MeetMasks(a, b), 0, maskOfSet(meet), 0)
			minus := ofA.picked(func(x, y int64) bool { return !ofB[[2]int64{x, y}] })
			wantMask(t, "MinusMasks", impl.MinusMasks(a, b), 0, maskOfSet(minus), 0)
		}
	}
	a, b := impl.Mask{0: 0b1100, 15: 0xf0f0}, impl.Mask{0: 0b1010, 15: 0xff00}
	wantMask(t, "JoinMasks", impl.JoinMasks(a, b), 0, impl.Mask{0: 0b1110, 15: 0xfff0}, 0)
	wantMask(t, "MeetMasks", impl.MeetMasks(a, b), 0, impl.Mask{0: 0b1000, 15: 0xf000}, 0)
	wantMask(t, "MinusMasks", impl.MinusMasks(a, b), 0, impl.Mask{0: 0b0100, 15: 0x00f0}, 0)
}

func TestShiftMask(t *testing.T) {
	random := rand.New(rand.NewSource(504))
	for _, m := range manyMasks(random, 10) {
		set := setOfMask(m)
		for dx := int64(-16); dx <= 16; dx++ {
			for dy := int64(-16); dy <= 16; dy++ {
				want := maskOfSet(set.moved(func(x, y int64) [2]int64 { return [2]int64{x + dx, y + dy} }))
				got, code := impl.ShiftMask(m, dx, dy)
				wantMask(t, "ShiftMask", got, code, want, impl.OK)
			}
		}
	}
	full := fullMask()
	cases := []struct {
		dx, dy int64
		want   impl.Mask
	}{
		{0, 0, full}, {-16, 0, impl.Mask{}}, {16, 0, impl.Mask{}}, {0, -16, impl.Mask{}}, {0, 16, impl.Mask{}}, {16, -16, impl.Mask{}},
		{15, 15, impl.Mask{15: 0x8000}}, {-15, -15, impl.Mask{1}}, {15, -15, impl.Mask{0x8000}}, {-15, 15, impl.Mask{15: 1}},
	}
	for _, c := range cases {
		got, code := impl.ShiftMask(full, c.dx, c.dy)
		wantMask(t, "ShiftMask of all cells", got, code, c.want, impl.OK)
	}
	for _, far := range append(farNumbers(), -17, 17, -18, 32, -32, 1<<16) {
		for _, d := range [][2]int64{{far, 0}, {0, far}, {far, far}, {far, 16}, {-16, far}} {
			got, code := impl.ShiftMask(full, d[0], d[1])
			wantMask(t, "ShiftMask too far", got, code, impl.Mask{}, impl.ErrRange)
			got, code = impl.ShiftMask(impl.Mask{}, d[0], d[1])
			wantMask(t, "ShiftMask of no cell too far", got, code, impl.Mask{}, impl.ErrRange)
		}
	}
}

func TestTurnsAndMirrors(t *testing.T) {
	random := rand.New(rand.NewSource(505))
	for _, m := range manyMasks(random, 300) {
		set := setOfMask(m)
		once := impl.TurnMask(m)
		wantMask(t, "TurnMask", once, 0, maskOfSet(set.moved(func(x, y int64) [2]int64 { return [2]int64{15 - y, x} })), 0)
		twice := impl.TurnMask(once)
		wantMask(t, "TurnMask twice", twice, 0, maskOfSet(set.moved(func(x, y int64) [2]int64 { return [2]int64{15 - x, 15 - y} })), 0)
		wantMask(t, "TurnMask four times", impl.TurnMask(impl.TurnMask(twice)), 0, m, 0)
		mirrored := impl.MirrorMask(m)
		wantMask(t, "MirrorMask", mirrored, 0, maskOfSet(set.moved(func(x, y int64) [2]int64 { return [2]int64{15 - x, y} })), 0)
		wantMask(t, "MirrorMask twice", impl.MirrorMask(mirrored), 0, m, 0)
		wantMask(t, "turned, mirrored, and both again", impl.MirrorMask(impl.TurnMask(impl.MirrorMask(once))), 0, m, 0)
		wantNumber(t, "cells of a turned mask", impl.CountCells(once), int64(len(set)))
	}
	wantMask(t, "TurnMask of a corner", impl.TurnMask(impl.Mask{1}), 0, impl.Mask{0x8000}, 0)
	wantMask(t, "TurnMask of the next corner", impl.TurnMask(impl.Mask{0x8000}), 0, impl.Mask{15: 0x8000}, 0)
	wantMask(t, "MirrorMask of a corner", impl.MirrorMask(impl.Mask{15: 1}), 0, impl.Mask{15: 0x8000}, 0)
}
