package tests

import (
	"fmt"
	"math"
	"math/rand"
	"slices"
	"strings"
	"testing"

	"loop.example/g01171/impl"
)

// guardedDeeds returns a list with room behind it, and a function that reports whether list and room are as before.
func guardedDeeds(list []impl.Deed) ([]impl.Deed, func() bool) {
	whole := append(slices.Clone(list), slices.Repeat([]impl.Deed{{Kind: 77, A: 78}}, 16)...)
	before := slices.Clone(whole)
	return whole[:len(list)], func() bool { return slices.Equal(whole, before) }
}

// oddStudio is one that mostly is not valid, and may be so in one field alone.
func oddStudio(random *rand.Rand) impl.Studio {
	s := anyStudio(random)
	number := func() int32 {
		return []int32{0, 1, -1, 62500, -62500, 62501, math.MinInt32, math.MaxInt32, int32(random.Uint32())}[random.Intn(9)]
	}
	switch random.Intn(6) {
	case 0:
		s.Scene = oddScene(random)
	case 1:
		s.Low[random.Intn(2)] = number()
	case 2:
		s.High[random.Intn(2)] = number()
	case 3:
		s.Workers = []int64{0, 5, -1, math.MaxInt64, math.MinInt64, int64(random.Uint64())}[random.Intn(6)]
	case 4:
		s.Low, s.High = impl.Corner{number(), number()}, impl.Corner{number(), number()}
	}
	return s
}

// oddDeeds may have one that is not valid, or be too many.
func oddDeeds(random *rand.Rand, s impl.Studio) []impl.Deed {
	deeds := randomDeeds(random, s, random.Intn(40))
	switch random.Intn(6) {
	case 0:
		deeds = append(deeds, impl.Deed{Kind: random.Int63n(12) - 1, A: random.Int63n(1200) - 100, B: random.Int63n(30) - 5})
	case 1:
		deeds = slices.Insert(deeds, random.Intn(len(deeds)+1), impl.Deed{Kind: int64(random.Uint64()), A: int64(random.Uint64()), B: int64(random.Uint64())})
	case 2:
		deeds = append(deeds, slices.Repeat(deedsOf("sync"), 301-len(deeds)-random.Intn(2))...)
	}
	return deeds
}

// Together with an error all results are zero values; equal arguments have equal results, whichever worker is ready first; and no argument is changed.
func TestResultsOfStudios(t *testing.T) {
	random := rand.New(rand.NewSource(850))
	codes := map[int64]int{}
	for range 400 {
		s := anyStudio(random)
		deeds, isDeedKept := guardedDeeds(oddDeeds(random, s))
		if random.Intn(4) == 0 {
			s = oddStudio(random)
		}
		scene, isSceneKept := guardedScene(s.Scene)
		again := s
		again.Scene = copyOfScene(s.Scene)
		s.Scene = scene
		before := copyOfScene(scene)
		at := impl.Corner{s.Low[0] + random.Int31n(3), s.Low[1] + random.Int31n(2)}
		text := "give 0\ndrawn\nx\n" + strings.Repeat("sync\n", random.Intn(200))
		checkCalls(t, studioFunctions(s, deeds, at, text), studioFunctions(again, slices.Clone(deeds), at, strings.Clone(text)), codes)
		impl.ValidStudio(s)
		if !isDeedKept() || !isSceneKept() || !sameScenes(s.Scene, before) {
			t.Fatal("an argument was changed")
		}
	}
	wantOften(t, codes, 50, impl.OK, impl.ErrInvalid, impl.ErrRange, impl.ErrNotFound)
	wantOften(t, codes, 15, impl.ErrLimit)
	for range 3000 {
		d := impl.Deed{Kind: random.Int63n(12) - 1, A: random.Int63n(1200) - 100}
		text, key := spoiled(random, "spoil 1 2"), strings.Repeat(string("0aF"[random.Intn(3)]), 31+random.Intn(2))
		calls := map[string]func() ([]any, int64){
			"ReadDeed": func() ([]any, int64) { return boxed(impl.ReadDeed(text)) }, "ReadKey": func() ([]any, int64) { return boxed(impl.ReadKey(key)) },
			"DeedText": func() ([]any, int64) { return boxed(impl.DeedText(d), 0) }, "ValidDeed": func() ([]any, int64) { return boxed(impl.ValidDeed(d), 0) },
		}
		checkCalls(t, calls, calls, codes)
	}
	wantOften(t, codes, 1000, impl.OK, impl.ErrSyntax)
}

// Results share no memory with each other, nor does anything stay from call to call.
func TestResultsOfStudiosAreNew(t *testing.T) {
	s := twinStudio(2)
	deeds := deedsOf(draws(3) + "sync; " + draws(1) + "give 1; give 0; deliver 0; work 1")
	w := openWorkshop(s)
	for _, d := range deeds {
		w.do(d)
	}
	for range 3 {
		h, done, code := impl.HouseAfter(s, deeds)
		wantHouse(t, "HouseAfter", h, done, code, w.house(), int64(len(deeds)), impl.OK)
		drawn, shelves, hands, wire := h.Drawn[:cap(h.Drawn)], h.Shelves[:cap(h.Shelves)], h.Hands[:cap(h.Hands)], h.Wire[:cap(h.Wire)]
		for i := range drawn {
			drawn[i] = impl.Drawn{At: impl.Corner{7, 7}}
		}
		for i := range shelves {
			shelves[i] = impl.Shelf{Mask: fullMask()}
		}
		for i := range hands {
			hands[i] = impl.Hand{At: impl.Corner{8, 8}}
		}
		for i := range wire {
			wire[i] = impl.Parcel{Worker: 77}
		}
		corners, code := impl.CornersOf(s)
		wantCorners(t, "CornersOf", corners, code, studioCorners(s), impl.OK)
		missing, code := impl.MissingAfter(s, deeds)
		wantCorners(t, "MissingAfter", missing, code, []impl.Corner{{1, 1}, {2, 1}}, impl.OK)
		picture, code := impl.PictureAfter(s, deeds)
		wantPicture(t, "PictureAfter", picture, code, w.picture(), impl.OK)
		plan, code := impl.FinishDeeds(s, deeds)
		wantDeeds(t, "FinishDeeds", plan, code, w.plan(), impl.OK)
		for _, list := range [][]impl.Corner{corners, missing} {
			for i := range list[:cap(list)] {
				list[:cap(list)][i] = impl.Corner{9, 9}
			}
		}
		picture[0], plan[0] = impl.Block{}, impl.Deed{}
	}
}

func TestStudioFunctionsReturnForAllArguments(t *testing.T) {
	random := rand.New(rand.NewSource(851))
	for range 700 {
		s := oddStudio(random)
		var deeds []impl.Deed
		for range random.Intn(60) {
			deeds = append(deeds, impl.Deed{Kind: random.Int63n(11), A: random.Int63n(20) - 1, B: random.Int63n(3)})
		}
		valid := slices.DeleteFunc(slices.Clone(deeds), func(d impl.Deed) bool { return !impl.ValidDeed(d) })
		at := impl.Corner{int32(random.Uint32()), int32(random.Uint32())}
		for _, list := range [][]impl.Deed{deeds, valid} {
			for _, call := range studioFunctions(s, list, at, string(randomBytes(random, random.Intn(200)))) {
				call()
			}
		}
	}
	many := impl.Studio{Scene: sceneOf(1, slices.Repeat([]impl.Op{{Kind: impl.OpOrbit, Family: impl.Family{Maps: make([]impl.Map, 50000)}}}, 8)...), Workers: 1}
	wantAllCodes(t, "many maps", studioFunctions(many, make([]impl.Deed, 500000), impl.Corner{}, ""), impl.ErrInvalid)
	long := strings.Repeat("give 0\n", 140000)
	wantAllCodes(t, "much to do", map[string]func() ([]any, int64){
		"RunScript": func() ([]any, int64) { return boxed(impl.RunScript(exampleStudio(1), long)) },
	}, impl.ErrRange)
	wantAllCodes(t, "much to read", map[string]func() ([]any, int64){
		"ReadDeed": func() ([]any, int64) { return boxed(impl.ReadDeed(long)) }, "ReadKey": func() ([]any, int64) { return boxed(impl.ReadKey(long)) },
	}, impl.ErrSyntax)
}

// wantOwnMasks checks that what has been drawn is DrawBlock of its corner, with its key.
func wantOwnMasks(t *testing.T, s impl.Studio, deeds []impl.Deed) int {
	t.Helper()
	h, _, code := impl.HouseAfter(s, deeds)
	wantNumber(t, "code of HouseAfter", code, impl.OK)
	for _, d := range h.Drawn {
		want, wantCode := impl.DrawBlock(s.Scene, d.At)
		m, code := impl.MaskAfter(s, deeds, d.At)
		wantMask(t, fmt.Sprint("MaskAfter ", d.At), m, code, want, wantCode)
		if d.Key != impl.KeyOfMask(want) || !slices.Contains(h.Shelves, impl.Shelf{Key: d.Key, Mask: want}) {
			t.Errorf("%v has the key %s, which is not that of its block, or not on a shelf", d.At, impl.KeyText(d.Key))
		}
	}
	keys := map[impl.MaskKey]bool{}
	for _, shelf := range h.Shelves {
		if keys[shelf.Key] || shelf.Key != impl.KeyOfMask(shelf.Mask) || !slices.ContainsFunc(h.Drawn, func(d impl.Drawn) bool { return d.Key == shelf.Key }) {
			t.Errorf("the shelf %v is there twice, wrong, or wanted by nothing", shelf)
		}
		keys[shelf.Key] = true
	}
	return len(h.Drawn)
}

// Whatever happens on the way, each mask is that of its block.
func TestMasksOfNoisyLines(t *testing.T) {
	random := rand.New(rand.NewSource(852))
	drawn := 0
	for range 120 {
		s := anyStudio(random)
		deeds := randomDeeds(random, s, 100)
		for _, n := range []int{20, 60, 100} {
			drawn += wantOwnMasks(t, s, deeds[:n])
		}
	}
	if drawn < 300 {
		t.Errorf("only %d corners have been drawn", drawn)
	}
}

// What is done to parcels changes no mask: without copies, losses and spoilt bits, the same corners have the same masks.
func TestMasksWithoutNoise(t *testing.T) {
	random := rand.New(rand.NewSource(853))
	for range 100 {
		s := anyStudio(random)
		noisy := randomDeeds(random, s, 120)
		calm, code := impl.FinishDeeds(s, nil)
		wantNumber(t, "code of FinishDeeds", code, impl.OK)
		h, _, _ := impl.HouseAfter(s, noisy)
		for _, d := range h.Drawn {
			m, code := impl.MaskAfter(s, noisy, d.At)
			want, wantCode := impl.MaskAfter(s, calm, d.At)
			wantMask(t, fmt.Sprint("MaskAfter ", d.At), m, code, want, wantCode)
			wantNumber(t, "code of MaskAfter", code, impl.OK)
		}
	}
}

// withinStudio tells the blocks of a picture that a studio has.
func withinStudio(s impl.Studio, picture []impl.Block) []impl.Block {
	return slices.DeleteFunc(slices.Clone(picture), func(b impl.Block) bool { return !slices.Contains(studioCorners(s), b.At) })
}

// wantShared checks that a picture that is shared out, after some deeds, is finished as the picture drawn at once, and returns its cells.
func wantShared(t *testing.T, s impl.Studio, deeds []impl.Deed) [][2]int32 {
	t.Helper()
	plan, code := impl.FinishDeeds(s, deeds)
	wantNumber(t, "code of FinishDeeds", code, impl.OK)
	picture, code := impl.PictureAfter(s, slices.Concat(deeds, plan))
	whole, wantCode := impl.DrawScene(s.Scene)
	wantPicture(t, fmt.Sprint("PictureAfter the plan in ", s), picture, code, withinStudio(s, whole), wantCode)
	cells, code := impl.CellsOfPicture(picture)
	wantNumber(t, "code of CellsOfPicture", code, impl.OK)
	return cells
}

// wantProofs checks that all of these cells have proofs.
func wantProofs(t *testing.T, s impl.Scene, cells [][2]int32) {
	t.Helper()
	for _, c := range cells {
		proof, code := impl.ProofOf(s, c)
		wantNumber(t, fmt.Sprint("code of ProofOf ", c), code, impl.OK)
		isProof, code := impl.CheckProof(s, c, proof)
		wantBool(t, fmt.Sprint("CheckProof ", c), isProof, code, true, impl.OK)
	}
}

func TestPicturesThatAreSharedOut(t *testing.T) {
	random := rand.New(rand.NewSource(854))
	cells := 0
	for i := range 120 {
		s := anyStudio(random)
		if _, code := impl.DrawScene(s.Scene); code != impl.OK {
			continue
		}
		s.Workers = int64(1 + i%4)
		shared := wantShared(t, s, randomDeeds(random, s, random.Intn(150)))
		wantProofs(t, s.Scene, shared)
		cells += len(shared)
	}
	if cells < 1000 {
		t.Errorf("only %d cells have been drawn", cells)
	}
	// Whole pictures, with all blocks of a scene.
	for _, scene := range []impl.Scene{
		compiled(t, "side 1\ndisc 0 0 17\n"), compiled(t, "side 1/4\nmap 1 0 1 0 0 0 1 0\nmap 1 0 0 1 0 0 1 0\ndepth 5\norbit\n"),
		compiled(t, "side 1/2\nmap 2 0 1 0 1 0 1 0\ndepth 6\nspot 3 1\nleaves 1/8\nclear\nmap 0 0 -1 0 1 0 0 3\nfar\ndepth 4\norbit\ndisc 9 -5 3\n"),
	} {
		low, high, code := impl.FrameOf(drawnAtOnce(t, scene))
		wantNumber(t, "code of FrameOf", code, impl.OK)
		first, _, _, _ := impl.BlockAt(int64(low[0]), int64(low[1]))
		last, _, _, _ := impl.BlockAt(int64(high[0]), int64(high[1]))
		all, _ := impl.CellsOfPicture(drawnAtOnce(t, scene))
		wantProofs(t, scene, all)
		for workers := int64(1); workers <= 4; workers++ {
			s := studioOf(scene, first, last, workers)
			wantBool(t, "ValidStudio", impl.ValidStudio(s), 0, true, 0)
			for range 8 {
				wantCells(t, "the cells of all blocks", wantShared(t, s, randomDeeds(random, s, 180)), 0, all, 0)
			}
		}
	}
}

func drawnAtOnce(t *testing.T, s impl.Scene) []impl.Block {
	t.Helper()
	picture, code := impl.DrawScene(s)
	wantNumber(t, "code of DrawScene", code, impl.OK)
	return picture
}

// The picture is the same whoever draws which block: all ways to share four corners out to workers.
func TestAllWaysToShareOut(t *testing.T) {
	for workers := 1; workers <= 4; workers++ {
		s := exampleStudio(int64(workers))
		whole := drawnAtOnce(t, s.Scene)
		for way := range 256 {
			text, isSuch := "", true
			for i, rest := 0, way; i < 4; i, rest = i+1, rest/4 {
				worker := rest % 4
				isSuch = isSuch && worker < workers
				text += fmt.Sprintf("give %d; deliver 0; work %d; deliver 0; ", worker, worker)
			}
			if !isSuch {
				continue
			}
			picture, code := impl.PictureAfter(s, deedsOf(text))
			wantPicture(t, "PictureAfter "+text, picture, code, whole, impl.OK)
		}
	}
}

func TestExampleOfChapter10(t *testing.T) {
	s := studioOf(compiled(t, "side 1\ndisc 0 0 1\n"), impl.Corner{-1, -1}, impl.Corner{0, 0}, 1)
	wantBool(t, "ValidStudio", impl.ValidStudio(s), 0, true, 0)
	corners, code := impl.CornersOf(s)
	wantCorners(t, "CornersOf", corners, code, []impl.Corner{{-1, -1}, {0, -1}, {-1, 0}, {0, 0}}, impl.OK)
	plan, code := impl.FinishDeeds(s, nil)
	want := deedsOf("quit 0; " + strings.Repeat("give 0; deliver 0; work 0; deliver 0; ", 4) + "sync")
	wantDeeds(t, "FinishDeeds", plan, code, want, impl.OK)
	picture, code := impl.PictureAfter(s, plan)
	wantPicture(t, "PictureAfter", picture, code, []impl.Block{{At: impl.Corner{0, -1}, Mask: impl.Mask{15: 1}}, {At: impl.Corner{-1, 0}, Mask: impl.Mask{0x8000}}, {Mask: impl.Mask{3, 1}}}, impl.OK)
	h, done, code := impl.HouseAfter(s, plan)
	wantCount(t, "HouseAfter", done, code, 18, impl.OK)
	wantNumber(t, "shelves", int64(len(h.Shelves)), 4)
	wantMask(t, "the first shelf", h.Shelves[0].Mask, 0, impl.Mask{}, 0)
	limits := fmt.Sprint(impl.MaxWorkers, impl.MaxFrame, impl.MaxWire, impl.MaxDeeds, impl.MaxScriptText, impl.MaxScriptLines)
	kinds := fmt.Sprint(impl.DdGive, impl.DdWork, impl.DdDeliver, impl.DdCopy, impl.DdDrop, impl.DdSpoil, impl.DdSync, impl.DdCrash, impl.DdQuit)
	if limits != "4 24 12 300 20000 120" || kinds != "1 2 3 4 5 6 7 8 9" {
		t.Errorf("the limits %s or the kinds %s are not those of the document", limits, kinds)
	}
}
