package tests

import (
	"fmt"
	"math"
	"testing"

	"loop.example/g01171/impl"
)

// wantValidStudio checks ValidStudio and CornersOf, and that nothing has happened in the beginning.
func wantValidStudio(t *testing.T, name string, s impl.Studio) {
	t.Helper()
	wantBool(t, "ValidStudio with "+name, impl.ValidStudio(s), 0, true, 0)
	corners, code := impl.CornersOf(s)
	wantCorners(t, "CornersOf with "+name, corners, code, studioCorners(s), impl.OK)
	h, done, code := impl.HouseAfter(s, nil)
	wantHouse(t, "HouseAfter with "+name, h, done, code, impl.House{Hands: make([]impl.Hand, s.Workers)}, 0, impl.OK)
	corners, code = impl.MissingAfter(s, nil)
	wantCorners(t, "MissingAfter with "+name, corners, code, studioCorners(s), impl.OK)
	out, code := impl.RunScript(s, "")
	wantWord(t, "RunScript with "+name, out, code, "", impl.OK)
}

// wantNoStudio checks that no function takes a studio, whatever else is given.
func wantNoStudio(t *testing.T, name string, s impl.Studio) {
	t.Helper()
	wantBool(t, "ValidStudio with "+name, impl.ValidStudio(s), 0, false, 0)
	for _, deeds := range [][]impl.Deed{nil, deedsOf("give 0; sync"), {{}}, make([]impl.Deed, 301), deedsOf("spoil 0 16; work 4")} {
		for _, at := range []impl.Corner{s.Low, {9, 9}} {
			wantAllCodes(t, name, deedFunctions(s, deeds, at), impl.ErrInvalid)
		}
	}
	for _, text := range []string{"", "drawn\n", string(make([]byte, 20001))} {
		wantAllCodes(t, name, studioFunctions(s, nil, s.Low, text), impl.ErrInvalid)
	}
}

func checkStudio(t *testing.T, name string, s impl.Studio, want bool) {
	t.Helper()
	if want {
		wantValidStudio(t, name, s)
	} else {
		wantNoStudio(t, name, s)
	}
}

func TestStudiosOfScenes(t *testing.T) {
	with := func(s impl.Scene) impl.Studio { return studioOf(s, impl.Corner{-1, -1}, impl.Corner{0, 0}, 2) }
	wantValidStudio(t, "every kind", with(everyKind()))
	wantValidStudio(t, "no operations", with(sceneOf(1)))
	wantNoStudio(t, "nothing at all", impl.Studio{})
	wantNoStudio(t, "no scene", with(impl.Scene{}))
	for _, side := range []float32{0, minusZero, -1, infinite, notNumber} {
		wantNoStudio(t, fmt.Sprint("the side ", side), with(sceneOf(side, discOp(0, 1))))
	}
	for i := range everyKind().Ops {
		for name, change := range opChanges() {
			wantBool(t, "ValidStudio with "+name, impl.ValidStudio(with(withOp(i, change))), 0, false, 0)
		}
		wantNoStudio(t, fmt.Sprint("no kind in ", i), with(withOp(i, func(o *impl.Op) { o.Kind = 0 })))
	}
	most := make([]impl.Op, 8)
	for i := range most {
		most[i] = discOp(complex(float32(i), 0), 1)
	}
	wantValidStudio(t, "most operations", with(sceneOf(1, most...)))
	wantNoStudio(t, "an operation more", with(sceneOf(1, append(most, discOp(0, 1))...)))
}

// The errors of CellsOfScene count, and those that DrawScene alone has do not.
func TestStudiosOfScenesThatCannotBeDrawn(t *testing.T) {
	with := func(ops ...impl.Op) impl.Studio {
		return studioOf(sceneOf(1, ops...), impl.Corner{-1, -1}, impl.Corner{0, 0}, 1)
	}
	cases := map[string]struct {
		s    impl.Studio
		want bool
	}{
		"the widest disc":           {with(discOp(0.5+0.5i, 24)), false},
		"a disc that is too wide":   {with(discOp(0, 25)), false},
		"a disc that is not found":  {with(discOp(1e30, 1)), false},
		"too many visits":           {with(orbitOp(shifts(1, 2), near(0), 7)), false},
		"too many of another kind":  {with(limitOp(shifts(1, 2), near(0), 7)), false},
		"too many leaves":           {with(leavesOp(shifts(1, 2), 0, 0.5, 8)), false},
		"a sound operation ahead":   {with(discOp(0, 1), discOp(0, 100)), false},
		"a sound operation behind":  {with(discOp(0, 100), discOp(0, 1)), false},
		"a great disc":              {with(discOp(0, 17)), true},
		"two of them":               {with(discOp(0, 17), discOp(100, 17)), false},
		"two of them, at one place": {with(discOp(0, 17), discOp(0, 17)), true},
		"cells that no picture has": {with(discOp(1e6-1e6i, 17), discOp(-1e6, 17)), true},
	}
	for name, c := range cases {
		_, code := sketchOf(c.s.Scene).inRows()
		wantBool(t, "the sketch of "+name, code == impl.OK, 0, c.want, 0)
		checkStudio(t, name, c.s, c.want)
	}
	// There are more blocks than a picture may have, which is no error of CellsOfScene.
	wide := with(orbitOp(shifts(16, 16i), near(0), 6))
	_, code := impl.DrawScene(wide.Scene)
	wantNumber(t, "DrawScene of too many blocks", code, impl.ErrLimit)
	wantValidStudio(t, "too many blocks", wide)
	checkDeeds(t, wide, wideDeeds())
}

// wideDeeds draw all of four corners.
func wideDeeds() []impl.Deed {
	return deedsOf("give 0; deliver 0; work 0; deliver 0; give 0; deliver 0; work 0; deliver 0; give 0; deliver 0; work 0; deliver 0; give 0; deliver 0; work 0; deliver 0; sync; crash")
}

func TestStudiosAtTheEdge(t *testing.T) {
	numbers := map[int32]bool{-62500: true, 62500: true, -62499: true, 62499: true, 0: true, -62501: false, 62501: false, -62502: false, math.MinInt32: false, math.MaxInt32: false, 65536: false, -65536: false}
	for n, isValid := range numbers {
		for i := range 2 {
			var at impl.Corner
			at[i] = n
			name := fmt.Sprint("the number ", n, " at ", i)
			checkStudio(t, name, studioOf(sceneOf(1, discOp(0, 1)), at, at, 1), isValid)
			// One of both alone may be wrong, even if there are few corners.
			for _, step := range []int32{-2, -1, 1, 2} {
				low, high := at, at
				if step < 0 {
					low[i] += step
				} else {
					high[i] += step
				}
				isThere := low[i] <= high[i] && low[i] >= -62500 && high[i] <= 62500
				checkStudio(t, fmt.Sprint(name, " and ", step, " more"), studioOf(sceneOf(1), low, high, 1), isThere)
			}
		}
	}
	far := studioOf(sceneOf(1, discOp(1e6+1e6i, 3), discOp(-1e6-1e6i, 3)), impl.Corner{62499, 62499}, impl.Corner{62500, 62500}, 1)
	wantValidStudio(t, "the last corners", far)
	w := checkDeeds(t, far, wideDeeds())
	wantNumber(t, "blocks of the last corners", int64(len(w.picture())), 4)
}

func TestFramesOfStudios(t *testing.T) {
	cases := map[[2]impl.Corner]bool{
		{{0, 0}, {0, 0}}: true, {{1, 0}, {0, 0}}: false, {{0, 1}, {0, 0}}: false, {{1, 1}, {0, 0}}: false,
		{{0, 0}, {-1, 5}}: false, {{0, 0}, {5, -1}}: false, {{-5, 3}, {-6, 3}}: false, {{-5, 3}, {-5, 2}}: false, {{-6, 3}, {-5, 3}}: true, {{-5, 2}, {-5, 3}}: true,
		{{0, 0}, {23, 0}}: true, {{0, 0}, {24, 0}}: false, {{0, 0}, {0, 23}}: true, {{0, 0}, {0, 24}}: false,
		{{-12, 7}, {11, 7}}: true, {{-12, 7}, {12, 7}}: false, {{7, -12}, {7, 11}}: true, {{7, -12}, {7, 12}}: false,
		{{-1, -2}, {2, 3}}: true, {{-2, -1}, {3, 2}}: true, {{0, 0}, {1, 11}}: true, {{0, 0}, {11, 1}}: true, {{0, 0}, {2, 7}}: true, {{0, 0}, {7, 2}}: true,
		{{0, 0}, {4, 4}}: false, {{0, 0}, {12, 1}}: false, {{0, 0}, {1, 12}}: false, {{0, 0}, {3, 6}}: false,
		{{-62500, -62500}, {62500, 62500}}: false, {{-62500, 0}, {62500, 0}}: false, {{0, -62500}, {0, 62500}}: false,
		// So many corners that their number has 32 zeros or 31 at its end.
		{{-32768, -32768}, {32767, 32767}}: false, {{-32768, -16384}, {32767, 16383}}: false, {{-32768, 0}, {32767, 1}}: false,
		// Both would be empty, so that a product of their widths would be greater than 0.
		{{5, 5}, {1, 1}}: false, {{2, 2}, {0, 0}}: false, {{3, 3}, {1, 1}}: false, {{62500, 62500}, {-62500, -62500}}: false,
	}
	for frame, isValid := range cases {
		for _, scene := range []impl.Scene{sceneOf(1), sceneOf(1, discOp(0, 3))} {
			checkStudio(t, fmt.Sprint("the corners ", frame), studioOf(scene, frame[0], frame[1], 1), isValid)
		}
	}
}

func TestWorkersOfStudios(t *testing.T) {
	for workers := int64(-3); workers <= 8; workers++ {
		checkStudio(t, fmt.Sprint(workers, " workers"), exampleStudio(workers), workers >= 1 && workers <= 4)
	}
	for _, workers := range []int64{1 << 32, 1<<32 + 1, 1<<32 + 4, -1 << 32, math.MaxInt64, math.MinInt64, math.MinInt64 + 1, 256, 257} {
		checkStudio(t, fmt.Sprint(workers, " workers"), exampleStudio(workers), false)
	}
}

func TestCornersByHand(t *testing.T) {
	s := studioOf(sceneOf(1), impl.Corner{-2, 5}, impl.Corner{0, 6}, 1)
	corners, code := impl.CornersOf(s)
	wantCorners(t, "CornersOf", corners, code, []impl.Corner{{-2, 5}, {-1, 5}, {0, 5}, {-2, 6}, {-1, 6}, {0, 6}}, impl.OK)
	// They are as in a picture that has cells in all of them.
	picture := rowOfBlocks(16, -3, -1, impl.Mask{1})
	corners, code = impl.CornersOf(studioOf(sceneOf(1), impl.Corner{-3, -1}, impl.Corner{4, 0}, 1))
	wantBool(t, "ValidPicture", impl.ValidPicture(picture), 0, true, 0)
	wantCorners(t, "CornersOf", corners, code, cornersOf(picture), impl.OK)
}
