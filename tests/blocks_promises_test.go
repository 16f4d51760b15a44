package tests

import (
	"math/rand"
	"reflect"
	"slices"
	"strings"
	"testing"

	"loop.example/g01171/impl"
)

// blockArguments are those of all functions of blocks.
type blockArguments struct {
	cells [][2]int32
	m, n  impl.Mask
	a, b  []impl.Block
	x, y  int64
	on    bool
	text  string
	data  []byte
}

// blockFunctions tells all functions of blocks, those without a code with OK.
func blockFunctions(g blockArguments) map[string]func() ([]any, int64) {
	return map[string]func() ([]any, int64){
		"MaskOf":     func() ([]any, int64) { return boxed(impl.MaskOf(g.cells)) },
		"CellsOf":    func() ([]any, int64) { return boxed(impl.CellsOf(g.m), 0) },
		"HasCell":    func() ([]any, int64) { return boxed(impl.HasCell(g.m, g.x, g.y)) },
		"SetCell":    func() ([]any, int64) { return boxed(impl.SetCell(g.m, g.x, g.y, g.on)) },
		"CountCells": func() ([]any, int64) { return boxed(impl.CountCells(g.m), 0) },
		"JoinMasks":  func() ([]any, int64) { return boxed(impl.JoinMasks(g.m, g.n), 0) },
		"MeetMasks":  func() ([]any, int64) { return boxed(impl.MeetMasks(g.m, g.n), 0) },
		"MinusMasks": func() ([]any, int64) { return boxed(impl.MinusMasks(g.m, g.n), 0) },
		"ShiftMask":  func() ([]any, int64) { return boxed(impl.ShiftMask(g.m, g.x, g.y)) },
		"TurnMask":   func() ([]any, int64) { return boxed(impl.TurnMask(g.m), 0) },
		"MirrorMask": func() ([]any, int64) { return boxed(impl.MirrorMask(g.m), 0) },
		"MaskText":   func() ([]any, int64) { return boxed(impl.MaskText(g.m), 0) },
		"ReadMask":   func() ([]any, int64) { return boxed(impl.ReadMask(g.text)) },
		"PackMask":   func() ([]any, int64) { return boxed(impl.PackMask(g.m), 0) },
		"UnpackMask": func() ([]any, int64) { return boxed(impl.UnpackMask(g.data)) },
		"BlockAt": func() ([]any, int64) {
			at, column, row, code := impl.BlockAt(g.x, g.y)
			return []any{at, column, row}, code
		},
		"ValidPicture":   func() ([]any, int64) { return boxed(impl.ValidPicture(g.a), 0) },
		"SamePicture":    func() ([]any, int64) { return boxed(impl.SamePicture(g.a, g.b), 0) },
		"PictureOf":      func() ([]any, int64) { return boxed(impl.PictureOf(g.cells)) },
		"CellsOfPicture": func() ([]any, int64) { return boxed(impl.CellsOfPicture(g.a)) },
		"PictureHas":     func() ([]any, int64) { return boxed(impl.PictureHas(g.a, g.x, g.y)) },
		"JoinPictures":   func() ([]any, int64) { return boxed(impl.JoinPictures(g.a, g.b)) },
		"MeetPictures":   func() ([]any, int64) { return boxed(impl.MeetPictures(g.a, g.b)) },
		"MinusPictures":  func() ([]any, int64) { return boxed(impl.MinusPictures(g.a, g.b)) },
		"CountPicture":   func() ([]any, int64) { return boxed(impl.CountPicture(g.a)) },
		"FrameOf":        func() ([]any, int64) { return boxedTwo(impl.FrameOf(g.a)) },
		"PieceOf":        func() ([]any, int64) { return boxed(impl.PieceOf(g.a, g.x, g.y, g.on)) },
		"PiecesOf":       func() ([]any, int64) { return boxed(impl.PiecesOf(g.a, g.on)) },
		"EdgeOf":         func() ([]any, int64) { return boxed(impl.EdgeOf(g.a)) },
	}
}

// anyBlocks are mostly a picture.
func anyBlocks(random *rand.Rand) []impl.Block {
	list := randomPicture(random)
	if len(list) == 0 || random.Intn(4) > 0 {
		return list
	}
	i := random.Intn(len(list))
	switch random.Intn(3) {
	case 0:
		list[i].Mask = impl.Mask{}
	case 1:
		list[i].At[random.Intn(2)] = int32(random.Uint32())
	case 2:
		slices.Reverse(list)
	}
	return list
}

// anyBlockArguments are such that most functions return OK at times, and all of their errors.
func anyBlockArguments(random *rand.Rand) blockArguments {
	g := blockArguments{m: randomMask(random), n: randomMask(random), a: anyBlocks(random), b: anyBlocks(random), on: random.Intn(2) == 0}
	g.cells = randomCells(random, random.Intn(1100))
	if random.Intn(2) == 0 {
		g.cells = spread(random.Intn(80))
	}
	if random.Intn(3) == 0 {
		g.cells = filled(0, 0, random.Int31n(17), random.Int31n(17))
	}
	g.x, g.y = random.Int63n(40)-20, random.Int63n(40)-20
	if cells := setOfBlocks(g.a).inRows(); len(cells) > 0 && random.Intn(2) == 0 {
		c := cells[random.Intn(len(cells))]
		g.x, g.y = int64(c[0]), int64(c[1])
	} else if random.Intn(3) == 0 {
		g.x = random.Int63() - random.Int63()
	}
	g.text, g.data = maskTextForTest(g.n), packForTest(g.n)
	if random.Intn(2) == 0 {
		at := random.Intn(len(g.text))
		g.text = g.text[:at] + string(random.Int31n(128)) + g.text[at+1:]
		g.data = append(g.data, byte(random.Intn(256)))
	}
	return g
}

// Together with an error all results are zero values; equal arguments have equal results; and no argument is changed.
func TestResultsOfBlocks(t *testing.T) {
	random := rand.New(rand.NewSource(550))
	codes := map[int64]int{}
	for range 600 {
		g := anyBlockArguments(random)
		copied := g
		copied.cells, copied.data, copied.text = slices.Clone(g.cells), slices.Clone(g.data), strings.Clone(g.text)
		copied.a, copied.b = slices.Clone(g.a), slices.Clone(g.b)
		var areKept [4]func() bool
		g.a, areKept[0] = guardedBlocks(g.a)
		g.b, areKept[1] = guardedBlocks(g.b)
		g.cells, areKept[2] = guardedCells(g.cells)
		g.data = append(slices.Clone(g.data), 7, 8, 9)
		data := slices.Clone(g.data)
		areKept[3] = func() bool { return slices.Equal(g.data[:len(data)], data) }
		g.data = g.data[:len(data)-3]
		checkCalls(t, blockFunctions(g), blockFunctions(copied), codes)
		g.data = g.data[:len(data)]
		for _, isKept := range areKept {
			if !isKept() {
				t.Fatal("an argument was changed")
			}
		}
	}
	for _, code := range []int64{impl.OK, impl.ErrInvalid, impl.ErrRange, impl.ErrLimit, impl.ErrSyntax, impl.ErrNotFound} {
		if codes[code] < 50 {
			t.Errorf("only %d calls returned %s", codes[code], impl.CodeName(code))
		}
	}
	wantNumber(t, "other codes", int64(len(codes)), 6)
}

// Results do not share memory with each other, nor with a picture.
func TestResultsOfBlocksAreNew(t *testing.T) {
	m := impl.Mask{3}
	list := []impl.Block{{Mask: m}, {At: impl.Corner{1, 0}, Mask: m}}
	ones := [][2]int32{{0, 0}, {1, 0}, {16, 0}, {17, 0}}
	for range 2 {
		cells := impl.CellsOf(m)
		data := impl.PackMask(m)
		all, _ := impl.CellsOfPicture(list)
		counts, _ := impl.PiecesOf(list, false)
		wantCells(t, "CellsOf", cells, 0, ones[:2], 0)
		wantCells(t, "CellsOfPicture", all, 0, ones, 0)
		wantCounts(t, "PiecesOf", counts, 0, []int64{2, 2}, 0)
		if !slices.Equal(data, []byte{0, 2}) {
			t.Errorf("PackMask: got %v", data)
		}
		cells[0], all[0], counts[0], data[0] = [2]int32{7, 7}, [2]int32{7, 7}, 7, 7
		for name, f := range pictureFunctions(ones) {
			got, _ := f(list)
			want, _ := f(slices.Clone(list))
			wantPicture(t, name, got, 0, want, 0)
			for i := range got[:cap(got)] {
				got[:cap(got)][i] = impl.Block{}
			}
			wantPicture(t, name+" of which the first result was changed", want, 0, pictureOfSet(setOfBlocks(want)), 0)
		}
		wantPicture(t, "the list", list, 0, []impl.Block{{Mask: m}, {At: impl.Corner{1, 0}, Mask: m}}, 0)
	}
}

// pictureFunctions tells all functions that return a picture.
func pictureFunctions(cells [][2]int32) map[string]func([]impl.Block) ([]impl.Block, int64) {
	return map[string]func([]impl.Block) ([]impl.Block, int64){
		"PictureOf":     func([]impl.Block) ([]impl.Block, int64) { return impl.PictureOf(cells) },
		"JoinPictures":  func(list []impl.Block) ([]impl.Block, int64) { return impl.JoinPictures(list, list) },
		"JoinNothing":   func(list []impl.Block) ([]impl.Block, int64) { return impl.JoinPictures(list, nil) },
		"JoinToNothing": func(list []impl.Block) ([]impl.Block, int64) { return impl.JoinPictures(nil, list) },
		"MeetPictures":  func(list []impl.Block) ([]impl.Block, int64) { return impl.MeetPictures(list, list) },
		"MinusPictures": func(list []impl.Block) ([]impl.Block, int64) { return impl.MinusPictures(list, nil) },
		"PieceOf":       func(list []impl.Block) ([]impl.Block, int64) { return impl.PieceOf(list, 0, 0, false) },
		"EdgeOf":        impl.EdgeOf,
	}
}

func TestBlockFunctionsReturnForAllArguments(t *testing.T) {
	random := rand.New(rand.NewSource(551))
	for range 1000 {
		g := blockArguments{m: randomMask(random), x: int64(random.Uint64()), y: int64(random.Uint64()), on: random.Intn(2) == 0}
		if random.Intn(2) == 0 {
			g.x, g.y = random.Int63n(2000003)-1000001, random.Int63n(2000003)-1000001
		}
		for range random.Intn(5) {
			g.cells = append(g.cells, [2]int32{int32(random.Uint32()), int32(random.Uint32())})
			g.a = append(g.a, impl.Block{At: impl.Corner{int32(random.Uint32()), int32(random.Uint32())}, Mask: randomMask(random)})
			g.b = append(g.b, impl.Block{At: impl.Corner{random.Int31n(130000) - 65000, random.Int31n(3)}, Mask: randomMask(random)})
			g.data = append(g.data, byte(random.Uint32()))
			g.text += string(random.Int31n(300))
		}
		for _, call := range blockFunctions(g) {
			call()
		}
	}
	many := blockArguments{cells: make([][2]int32, 400000), a: make([]impl.Block, 50000), b: make([]impl.Block, 50000), data: make([]byte, 900000), text: strings.Repeat("#", 900000)}
	codes := map[string]int64{"MaskOf": impl.ErrLimit, "PictureOf": impl.ErrLimit, "ReadMask": impl.ErrSyntax, "UnpackMask": impl.ErrSyntax, "JoinPictures": impl.ErrInvalid, "PieceOf": impl.ErrInvalid}
	for name, call := range blockFunctions(many) {
		results, code := call()
		if want, isListed := codes[name]; isListed && (code != want || !areZero(results)) {
			t.Errorf("%s of many: got %s", name, impl.CodeName(code))
		}
	}
}

func TestExampleOfChapter7(t *testing.T) {
	m, code := impl.MaskOf([][2]int32{{0, 0}, {1, 0}})
	wantMask(t, "MaskOf", m, code, impl.Mask{3}, impl.OK)
	wantCells(t, "TurnMask", impl.CellsOf(impl.TurnMask(m)), 0, [][2]int32{{15, 0}, {15, 1}}, 0)
	if data := impl.PackMask(m); !slices.Equal(data, []byte{0, 2}) {
		t.Errorf("PackMask: got %v", data)
	}
	wantBlockAt(t, -1, 16, impl.Corner{-1, 1}, 15, 0, impl.OK)
	list, code := impl.PictureOf([][2]int32{{0, 0}, {1, 1}, {5, 0}})
	wantNumber(t, "code of PictureOf", code, impl.OK)
	counts, code := impl.PiecesOf(list, false)
	wantCounts(t, "PiecesOf", counts, code, []int64{1, 1, 1}, impl.OK)
	counts, code = impl.PiecesOf(list, true)
	wantCounts(t, "PiecesOf with corners", counts, code, []int64{2, 1}, impl.OK)
	if limits := []int64{impl.MaxBlocks, impl.MaxColumn, impl.MaxSpots}; !reflect.DeepEqual(limits, []int64{64, 1000000, 1024}) {
		t.Error("the limits are not those of the document")
	}
}
