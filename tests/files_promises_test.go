package tests

import (
	"fmt"
	"math/rand"
	"slices"
	"strings"
	"testing"

	"loop.example/g01171/impl"
)

// fileArguments has what the functions of files are given.
type fileArguments struct {
	list, other []impl.Frame
	data        []byte
	points      []complex64
	picture     []impl.Block
	words       []string
	payload     [12]byte
	f           impl.Frame
	m, n        int64
}

// fileFunctions tells all functions of files that return a code.
func fileFunctions(g fileArguments) map[string]func() ([]any, int64) {
	return map[string]func() ([]any, int64){
		"CheckOf":    func() ([]any, int64) { return boxed(impl.CheckOf(g.m, g.payload)) },
		"MakeFrame":  func() ([]any, int64) { return boxed(impl.MakeFrame(g.m, g.payload)) },
		"IsSound":    func() ([]any, int64) { return boxed(impl.IsSound(g.f, g.m)) },
		"PackFrames": func() ([]any, int64) { return boxed(impl.PackFrames(g.m, g.n, g.data)) },
		"UnpackFrames": func() ([]any, int64) {
			kind, count, data, code := impl.UnpackFrames(g.list)
			return []any{kind, count, data}, code
		},
		"BrokenFrames":    func() ([]any, int64) { return boxed(impl.BrokenFrames(g.list)) },
		"SpoilFrame":      func() ([]any, int64) { return boxed(impl.SpoilFrame(g.list, g.m, g.n)) },
		"MendFrames":      func() ([]any, int64) { return boxedTwo(impl.MendFrames(g.list, g.other)) },
		"BytesOfFrames":   func() ([]any, int64) { return boxed(impl.BytesOfFrames(g.list)) },
		"FramesOfBytes":   func() ([]any, int64) { return boxedTwo(impl.FramesOfBytes(g.data)) },
		"PointFile":       func() ([]any, int64) { return boxed(impl.PointFile(g.points)) },
		"ReadPointFile":   func() ([]any, int64) { return boxed(impl.ReadPointFile(g.list)) },
		"SeekPoint":       func() ([]any, int64) { return boxedTwo(impl.SeekPoint(g.list, g.m)) },
		"AppendPoints":    func() ([]any, int64) { return boxed(impl.AppendPoints(g.list, g.points)) },
		"PictureFile":     func() ([]any, int64) { return boxed(impl.PictureFile(g.picture)) },
		"ReadPictureFile": func() ([]any, int64) { return boxed(impl.ReadPictureFile(g.list)) },
		"WordFile":        func() ([]any, int64) { return boxed(impl.WordFile(g.words)) },
		"ReadWordFile":    func() ([]any, int64) { return boxed(impl.ReadWordFile(g.list)) },
	}
}

func (g fileArguments) copied() fileArguments {
	g.list, g.other, g.data = slices.Clone(g.list), slices.Clone(g.other), slices.Clone(g.data)
	g.points, g.picture, g.words = slices.Clone(g.points), slices.Clone(g.picture), slices.Clone(g.words)
	return g
}

// guarded returns arguments with room behind all lists, and a function that reports whether all is as before.
func (g fileArguments) guarded() (fileArguments, func() bool) {
	areKept := make([]func() bool, 6)
	g.list, areKept[0] = guardedFrames(g.list)
	g.other, areKept[1] = guardedFrames(g.other)
	g.data, areKept[2] = guardedBytes(g.data)
	g.points, areKept[3] = guardedPoints(g.points)
	g.picture, areKept[4] = guardedBlocks(g.picture)
	g.words, areKept[5] = guardedWords(g.words)
	return g, func() bool {
		return !slices.ContainsFunc(areKept, func(isKept func() bool) bool { return !isKept() })
	}
}

// anyFileArguments are valid mostly.
func anyFileArguments(random *rand.Rand) fileArguments {
	g := fileArguments{
		list: anyFile(random), other: anyFile(random), data: randomBytes(random, random.Intn(100)),
		points: randomPoints(random, random.Intn(260)), picture: randomPicture(random), words: manyWords(random, random.Intn(150)),
		payload: randomPayload(random), f: impl.Frame(randomBytes(random, 16)), m: random.Int63n(6) - 1, n: random.Int63n(140) - 5,
	}
	switch random.Intn(8) {
	case 0:
		g.words = append(g.words, "x")
	case 1:
		g.picture = append(g.picture, impl.Block{})
	case 2:
		g.list = changedFile(random, g.list)
	case 3:
		g.list = append(g.list, make([]impl.Frame, 700)...)
	case 4:
		g.list = spoiltAt(g.list, random.Intn(len(g.list)))
	case 5:
		g.data = make([]byte, 12000)
	}
	return g
}

// Together with an error all results are zero values; equal arguments have equal results; and no argument is changed.
func TestResultsOfFiles(t *testing.T) {
	random := rand.New(rand.NewSource(760))
	codes := map[int64]int{}
	for range 300 {
		g, isKept := anyFileArguments(random).guarded()
		again := g.copied()
		checkCalls(t, fileFunctions(g), fileFunctions(again), codes)
		if !isKept() {
			t.Fatal("an argument was changed")
		}
	}
	wantOften(t, codes, 30, impl.OK, impl.ErrInvalid, impl.ErrRange, impl.ErrLimit, impl.ErrSyntax, impl.ErrProof)
}

// overwritten changes all frames of a list, and those of the room behind it.
func overwritten(list []impl.Frame) {
	list = list[:cap(list)]
	for i := range list {
		list[i] = impl.Frame{66, 66, 66}
	}
}

// Results do not share memory with each other, nor with an argument.
func TestResultsOfFilesAreNew(t *testing.T) {
	points, words := []complex64{1, 2i, 3}, []string{"ab", "C", ""}
	picture := rowOfBlocks(2, 0, 0, impl.Mask{5})
	list, data := pointFileForTest(points), []byte("some bytes of data, so many that they are in several frames")
	frames := map[string]func() []impl.Frame{
		"PackFrames":    func() []impl.Frame { made, _ := impl.PackFrames(1, 2, data); return made },
		"SpoilFrame":    func() []impl.Frame { made, _ := impl.SpoilFrame(list, 1, 3); return made },
		"MendFrames":    func() []impl.Frame { made, _, _ := impl.MendFrames(list, list); return made },
		"MendFrames 2":  func() []impl.Frame { made, _, _ := impl.MendFrames(spoiltAt(list, 1), list); return made },
		"FramesOfBytes": func() []impl.Frame { made, _, _ := impl.FramesOfBytes(data); return made },
		"PointFile":     func() []impl.Frame { made, _ := impl.PointFile(points); return made },
		"AppendPoints":  func() []impl.Frame { made, _ := impl.AppendPoints(list, points); return made },
		"AppendNothing": func() []impl.Frame { made, _ := impl.AppendPoints(list, nil); return made },
		"PictureFile":   func() []impl.Frame { made, _ := impl.PictureFile(picture); return made },
		"WordFile":      func() []impl.Frame { made, _ := impl.WordFile(words); return made },
	}
	for name, make := range frames {
		first, second := make(), make()
		want := slices.Clone(second)
		overwritten(first)
		wantFrames(t, name+" of which the first result was changed", second, 0, want, 0)
	}
	for range 2 {
		wantFrames(t, "the list", list, 0, pointFileForTest(points), 0)
		_, _, unpacked, _ := impl.UnpackFrames(list)
		wantBytes(t, "UnpackFrames", unpacked, 0, keysOf(points), 0)
		all, _ := impl.BytesOfFrames(list)
		wantBytes(t, "BytesOfFrames", all[:12], 0, list[0][:12], 0)
		back, _ := impl.ReadPointFile(list)
		wantPoints(t, "ReadPointFile", back, 0, points, 0)
		_, places, _ := impl.SeekPoint(list, 1)
		wantCounts(t, "SeekPoint", places, 0, []int64{1, 2}, 0)
		broken, _ := impl.BrokenFrames(spoiltAt(list, 1))
		wantCounts(t, "BrokenFrames", broken, 0, []int64{1}, 0)
		drawn, _ := impl.ReadPictureFile(pictureFileForTest(picture))
		wantPicture(t, "ReadPictureFile", drawn, 0, picture, 0)
		read, _ := impl.ReadWordFile(wordFileForTest(words))
		wantWords(t, "ReadWordFile", read, 0, words, 0)
		unpacked[0], all[0], back[0], places[0], broken[0], drawn[0], read[0] = 9, 9, 9, 9, 9, impl.Block{}, "dd"
	}
}

func TestFileFunctionsReturnForAllArguments(t *testing.T) {
	random := rand.New(rand.NewSource(761))
	for range 1000 {
		g := anyFileArguments(random)
		g.m, g.n = int64(random.Uint64()), int64(random.Uint64())
		switch random.Intn(3) {
		case 0:
			g.m = random.Int63n(800) - 50
		case 1:
			g.list = soundFrames(randomBytes(random, random.Intn(100)))
		}
		for _, call := range fileFunctions(g) {
			call()
		}
	}
	many := fileArguments{
		list: make([]impl.Frame, 60000), other: make([]impl.Frame, 60000), data: make([]byte, 900000), points: make([]complex64, 900000),
		picture: make([]impl.Block, 50000), words: slices.Repeat([]string{strings.Repeat("a", 40)}, 20000), m: 1,
	}
	for name, call := range fileFunctions(many) {
		want := map[string]int64{"CheckOf": impl.OK, "MakeFrame": impl.OK, "IsSound": impl.OK, "PictureFile": impl.ErrInvalid}
		wantCode, isListed := want[name]
		if !isListed {
			wantCode = impl.ErrLimit
		}
		results, code := call()
		if code != wantCode || code != impl.OK && !areZero(results) {
			t.Errorf("%s of many: got %s", name, impl.CodeName(code))
		}
	}
}

func TestExampleOfChapter9(t *testing.T) {
	empty, code := impl.PackFrames(impl.FkPoints, 0, nil)
	wantNumber(t, "code of PackFrames", code, impl.OK)
	wantNumber(t, "frames of no data", int64(len(empty)), 1)
	wantBytes(t, "the head of no data", empty[0][:4], 0, []byte{77, 80, 78, 1}, 0)
	list, code := impl.PointFile([]complex64{1, 2})
	wantNumber(t, "code of PointFile", code, impl.OK)
	wantNumber(t, "frames of two points", int64(len(list)), 3)
	x, places, code := impl.SeekPoint(list, 1)
	wantPoint(t, "SeekPoint", x, code, 2, impl.OK)
	wantCounts(t, "SeekPoint", places, code, []int64{1, 2}, impl.OK)
	spoilt, code := impl.SpoilFrame(list, 1, 5)
	wantNumber(t, "code of SpoilFrame", code, impl.OK)
	wantBroken(t, "SpoilFrame", spoilt, []int64{1}, impl.OK)
	limits := fmt.Sprint(impl.MaxFrames, impl.MaxBytes, impl.MaxWords, impl.FkPoints, impl.FkPicture, impl.FkWords)
	if limits != "700 8192 256 1 2 3" {
		t.Errorf("the limits %s are not those of the document", limits)
	}
}
