package tests

import (
	"fmt"
	"math/rand"
	"reflect"
	"slices"
	"strings"
	"testing"

	"loop.example/g01171/impl"
)

// sceneFunctions tells all functions of scenes that return a code.
func sceneFunctions(s impl.Scene, op int64, c impl.Cell, at impl.Corner, w string) map[string]func() ([]any, int64) {
	return map[string]func() ([]any, int64){
		"OpVisits":       func() ([]any, int64) { return boxed(impl.OpVisits(s, op)) },
		"CellsOfScene":   func() ([]any, int64) { return boxed(impl.CellsOfScene(s)) },
		"DrawScene":      func() ([]any, int64) { return boxed(impl.DrawScene(s)) },
		"CornersOfScene": func() ([]any, int64) { return boxed(impl.CornersOfScene(s)) },
		"DrawBlock":      func() ([]any, int64) { return boxed(impl.DrawBlock(s, at)) },
		"ProofOf":        func() ([]any, int64) { return boxed(impl.ProofOf(s, c)) },
		"CheckProof":     func() ([]any, int64) { return boxed(impl.CheckProof(s, c, impl.Proof{Op: op, Word: w})) },
	}
}

// textFunctions does the same for those that read a text.
func textFunctions(text string) map[string]func() ([]any, int64) {
	return map[string]func() ([]any, int64){
		"ReadNumber": func() ([]any, int64) { return boxed(impl.ReadNumber(text)) },
		"CompileScene": func() ([]any, int64) {
			s, line, code := impl.CompileScene(text)
			if code != impl.OK {
				line = 0 // it tells where the error is
			}
			return []any{s, line}, code
		},
	}
}

// anyScene is mostly valid, and draws too much at times.
func anyScene(random *rand.Rand) impl.Scene {
	s := randomScene(random)
	switch random.Intn(12) {
	case 0:
		s.Side = randomPart(random)
	case 1:
		s.Ops = append(s.Ops, impl.Op{Kind: random.Int63n(6), Spot: randomSpot(random)})
	case 2:
		s.Ops = append(s.Ops, discOp(0, 1000))
	case 3:
		s.Ops = append(s.Ops, orbitOp(shifts(1, 2, 1i), near(0), 8))
	}
	return s
}

// Together with an error all results are zero values; equal arguments have equal results, whichever worker is ready first; and no argument is changed.
func TestResultsOfScenes(t *testing.T) {
	random := rand.New(rand.NewSource(650))
	codes := map[int64]int{}
	for range 400 {
		s, isKept := guardedScene(anyScene(random))
		copied := copyOfScene(s)
		op, c, at := random.Int63n(6)-1, impl.Cell{random.Int31n(9) - 4, random.Int31n(9) - 4}, impl.Corner{random.Int31n(3) - 1, random.Int31n(3) - 1}
		w := randomReduced(random, 1+random.Intn(2), random.Intn(3))
		checkCalls(t, sceneFunctions(s, op, c, at, w), sceneFunctions(copied, op, c, at, w), codes)
		impl.ValidScene(s)
		impl.SameScene(s, s)
		if !isKept() || !sameScenes(s, copied) {
			t.Fatal("a scene was changed")
		}
		text := spoiled(random, "side 1\n"+shiftLine+"orbit\nspot 1 2\nleaves 1/2\n")
		checkCalls(t, textFunctions(text), textFunctions(strings.Clone(text)), codes)
	}
	for _, code := range []int64{impl.OK, impl.ErrInvalid, impl.ErrRange, impl.ErrLimit, impl.ErrSyntax, impl.ErrNotFound} {
		if codes[code] < 20 {
			t.Errorf("only %d calls returned %s", codes[code], impl.CodeName(code))
		}
	}
}

// Results do not share memory with each other, nor with a scene.
func TestResultsOfScenesAreNew(t *testing.T) {
	text := "side 1\n" + shiftLine + "depth 2\norbit\nlimit\nleaves 1/2\ndisc 0 0 1\norbit\n"
	given := compiled(t, text)
	for range 2 {
		s := compiled(t, text)
		wantScene(t, "CompileScene", s, 0, 0, sceneOf(1, orbitOp(shifts(1), near(0), 2), limitOp(shifts(1), near(0), 2), leavesOp(shifts(1), 0, 0.5, 2), discOp(0, 1), orbitOp(shifts(1), near(0), 2)), 0, 0)
		// No list of maps is that of another operation.
		for i := range s.Ops {
			maps := s.Ops[i].Family.Maps
			for j := range maps[:cap(maps)] {
				maps[:cap(maps)][j] = impl.Map{A: complex(float32(i), 0), D: 7}
			}
		}
		for i, o := range s.Ops {
			if len(o.Family.Maps) > 0 && real(o.Family.Maps[0].A) != float32(i) {
				t.Errorf("the maps of the operation %d are those of another one: %v", i, o.Family.Maps)
			}
		}
		for op, number := range []int{5, 2, 2, 5} {
			visits, _ := impl.OpVisits(given, int64(op))
			wantNumber(t, "visits", int64(len(visits)), int64(number))
			for i := range visits {
				if visits[i].Spot.Far || visits[i].Word == "d" {
					t.Errorf("OpVisits shares memory: %v", visits)
				}
				visits[i] = impl.Visit{Word: "d", Spot: farSpot}
			}
		}
		cells, _ := impl.CellsOfScene(given)
		blocks, _ := impl.DrawScene(given)
		corners, _ := impl.CornersOfScene(given)
		wantCellList(t, "CellsOfScene", cells, 0, [][2]int32{{0, -1}, {-2, 0}, {-1, 0}, {0, 0}, {1, 0}, {2, 0}, {0, 1}}, 0)
		wantCorners(t, "CornersOfScene", corners, 0, []impl.Corner{{0, -1}, {-1, 0}, {0, 0}}, 0)
		wantPicture(t, "DrawScene", blocks, 0, []impl.Block{{At: impl.Corner{0, -1}, Mask: impl.Mask{15: 1}}, {At: impl.Corner{-1, 0}, Mask: impl.Mask{0xc000}}, {Mask: impl.Mask{7, 1}}}, 0)
		cells[0], blocks[0], corners[0] = impl.Cell{7, 7}, impl.Block{}, impl.Corner{7, 7}
	}
}

// oddScene has any fields in any of its operations.
func oddScene(random *rand.Rand) impl.Scene {
	s := sceneOf(randomPart(random))
	for range random.Intn(10) {
		o := impl.Op{Kind: random.Int63n(6), Spot: impl.Spot{Far: random.Intn(4) == 0, At: randomPoint(random)}, Depth: random.Int63n(15) - 1, Small: randomPart(random), Centre: randomPoint(random), Radius: randomPart(random)}
		if random.Intn(2) == 0 {
			o.Family = anyFamily(random, 5)
		}
		if random.Intn(3) > 0 {
			o = [](func() impl.Op){
				func() impl.Op { return orbitOp(o.Family, o.Spot, o.Depth) }, func() impl.Op { return limitOp(o.Family, o.Spot, o.Depth) },
				func() impl.Op { return leavesOp(o.Family, o.Spot.At, o.Small, o.Depth) }, func() impl.Op { return discOp(o.Centre, o.Radius) },
			}[random.Intn(4)]()
		}
		s.Ops = append(s.Ops, o)
	}
	return s
}

func TestSceneFunctionsReturnForAllArguments(t *testing.T) {
	random := rand.New(rand.NewSource(651))
	for range 1500 {
		s := oddScene(random)
		c := impl.Cell{int32(random.Uint32()), int32(random.Uint32())}
		for _, call := range sceneFunctions(s, random.Int63()-random.Int63(), c, impl.Corner(c), anyWord(random)) {
			call()
		}
		for _, call := range sceneFunctions(s, random.Int63n(9), c, impl.Corner(c), string([]byte{byte(random.Uint32())})) {
			call()
		}
		impl.SameScene(s, sceneOf(s.Side, s.Ops[:len(s.Ops)/2]...))
	}
	for _, text := range []string{strings.Repeat("side 1\n", 140000), strings.Repeat("\x00", 1000000), strings.Repeat(" ", 1000000), strings.Repeat("\n", 1000000), strings.Repeat("\xff", 1000), "\xff\xfe", "side \xff"} {
		for name, call := range textFunctions(text) {
			if results, code := call(); code == impl.OK || !areZero(results) {
				t.Errorf("%s: got %v and %s", name, results, impl.CodeName(code))
			}
		}
	}
	many := sceneOf(1, slices.Repeat([]impl.Op{{Kind: impl.OpOrbit, Family: impl.Family{Maps: make([]impl.Map, 100000)}}}, 8)...)
	for name, call := range sceneFunctions(many, 0, impl.Cell{}, impl.Corner{}, "a") {
		if results, code := call(); code != impl.ErrInvalid || !areZero(results) {
			t.Errorf("%s of many maps: got %v and %s", name, results, impl.CodeName(code))
		}
	}
	if impl.ValidScene(many) || !impl.SameScene(many, many) {
		t.Error("ValidScene or SameScene of many maps")
	}
	proof := impl.Proof{Word: strings.Repeat("a", 1000000)}
	isProof, code := impl.CheckProof(everyKind(), impl.Cell{}, proof)
	wantBool(t, "CheckProof of a long word", isProof, code, false, impl.OK)
}

func TestExampleOfChapter8(t *testing.T) {
	s := compiled(t, "side 1\nmap 1 0 1 0 0 0 1 0\ndepth 2\norbit\n")
	wantScene(t, "CompileScene", s, 0, 0, sceneOf(1, orbitOp(shifts(1), near(0), 2)), 0, 0)
	cells, code := impl.CellsOfScene(s)
	wantCellList(t, "CellsOfScene", cells, code, [][2]int32{{-2, 0}, {-1, 0}, {0, 0}, {1, 0}, {2, 0}}, impl.OK)
	proof, code := impl.ProofOf(s, cells[4])
	wantProof(t, "ProofOf", proof, code, impl.Proof{Word: "aa"}, impl.OK)
	m, code := impl.DrawBlock(s, impl.Corner{})
	wantMask(t, "DrawBlock", m, code, impl.Mask{7}, impl.OK)
	cells, code = impl.CellsOfScene(compiled(t, "side 1\ndisc 0 0 1\n"))
	wantCellList(t, "CellsOfScene", cells, code, [][2]int32{{0, -1}, {-1, 0}, {0, 0}, {1, 0}, {0, 1}}, impl.OK)
	a, code := impl.ReadNumber("-3/8")
	wantReal(t, "ReadNumber", a, code, -0.375, impl.OK)
	a, code = impl.ReadNumber("-0")
	wantReal(t, "ReadNumber", a, code, 0, impl.OK)
	limits := fmt.Sprint(impl.MaxSceneText, impl.MaxOps, impl.MaxDiscSide, impl.OpOrbit, impl.OpLimit, impl.OpLeaves, impl.OpDisc)
	if !reflect.DeepEqual(limits, "4000 8 48 1 2 3 4") {
		t.Errorf("the limits %s are not those of the document", limits)
	}
}
