package tests

import (
	"fmt"
	"math/rand"
	"slices"
	"strings"
	"testing"

	"loop.example/g01171/impl"
)

func TestRefusedDeeds(t *testing.T) {
	s := exampleStudio(2)
	for text, want := range map[string][3]int64{
		"":                              {0, 0, impl.ErrNotFound},
		"sync":                          {0, 0, impl.ErrNotFound},
		"give 0; deliver 0; work 0":     {0, 0, impl.ErrNotFound},
		"work 0":                        {0, impl.ErrState, 0},
		"work 2":                        {0, impl.ErrRange, 0},
		"deliver 0; work 0; give 3":     {0, impl.ErrRange, 0},
		"sync; work 1; deliver 0":       {1, impl.ErrState, 0},
		"crash; sync; quit 1; quit 2":   {3, impl.ErrRange, 0},
		gives(12) + "sync":              {0, 0, impl.ErrNotFound},
		gives(13) + "work 0; deliver 9": {12, impl.ErrLimit, 0},
		draws(4) + "give 0; give 2":     {16, impl.ErrState, 0},
		// What is behind a refused deed is done all the same.
		"work 0; give 0; deliver 0; work 0; deliver 0; work 0": {0, impl.ErrState, 0},
	} {
		at, bad, code := impl.RefusedDeed(s, deedsOf(text))
		if got := [3]int64{at, bad, code}; got != want {
			t.Errorf("RefusedDeed of %q: got %v, want %v", text, got, want)
		}
	}
	full := slices.Repeat(deedsOf("sync"), 300)
	for _, i := range []int{0, 1, 150, 299} {
		deeds := slices.Clone(full)
		deeds[i] = impl.Deed{Kind: impl.DdWork, A: 1}
		at, bad, code := impl.RefusedDeed(s, deeds)
		wantWord(t, "RefusedDeed", fmt.Sprint(at, bad, code), 0, fmt.Sprint(i, impl.ErrState, impl.OK), 0)
	}
}

// Deeds that are left out change nothing: without them all is the same.
func TestDeedsLeftOut(t *testing.T) {
	random := rand.New(rand.NewSource(830))
	left := 0
	for range 150 {
		s := anyStudio(random)
		deeds := randomDeeds(random, s, random.Intn(80))
		var done []impl.Deed
		for i, code := range deedCodes(s, deeds) {
			if code == impl.OK {
				done = append(done, deeds[i])
			}
		}
		left += len(deeds) - len(done)
		h, number, code := impl.HouseAfter(s, deeds)
		want, all, wantCode := impl.HouseAfter(s, done)
		wantHouse(t, "HouseAfter", h, number, code, want, all, wantCode)
		wantNumber(t, "deeds that have been done", number, int64(len(done)))
		_, _, code = impl.RefusedDeed(s, done)
		wantNumber(t, "RefusedDeed of what can be done", code, impl.ErrNotFound)
	}
	if left < 300 {
		t.Errorf("only %d deeds were left out", left)
	}
}

func TestMasksOfCorners(t *testing.T) {
	s := exampleStudio(1)
	deeds := deedsOf(draws(3) + "give 0; deliver 0")
	for at, want := range map[impl.Corner]impl.Mask{{-1, -1}: {}, {0, -1}: {15: 1}, {-1, 0}: {0x8000}} {
		m, code := impl.MaskAfter(s, deeds, at)
		wantMask(t, fmt.Sprint("MaskAfter ", at), m, code, want, impl.OK)
		m, code = impl.MaskAfter(s, append(deeds, impl.Deed{Kind: impl.DdCrash}), at)
		wantMask(t, fmt.Sprint("MaskAfter ", at, " and a crash"), m, code, impl.Mask{}, impl.ErrNotFound)
		m, code = impl.MaskAfter(s, nil, at)
		wantMask(t, fmt.Sprint("MaskAfter ", at, " in the beginning"), m, code, impl.Mask{}, impl.ErrNotFound)
	}
	m, code := impl.MaskAfter(s, deeds, impl.Corner{})
	wantMask(t, "MaskAfter of a corner in hand", m, code, impl.Mask{}, impl.ErrNotFound)
	m, code = impl.MaskAfter(s, append(deeds, deedsOf("work 0")...), impl.Corner{})
	wantMask(t, "MaskAfter of a corner on the wire", m, code, impl.Mask{}, impl.ErrNotFound)
	m, code = impl.MaskAfter(s, append(deeds, deedsOf("work 0; copy 0")...), impl.Corner{})
	wantMask(t, "MaskAfter of a corner that has come in", m, code, impl.Mask{3, 1}, impl.OK)
	for _, at := range outsideOf(s) {
		for _, list := range [][]impl.Deed{nil, deeds, deedsOf(draws(4))} {
			m, code = impl.MaskAfter(s, list, at)
			wantMask(t, fmt.Sprint("MaskAfter ", at), m, code, impl.Mask{}, impl.ErrRange)
		}
	}
	// A mask is found by its corner, even if others have the same one.
	twins := twinStudio(1)
	for n := range 7 {
		checkDeeds(t, twins, deedsOf(draws(n)))
		checkDeeds(t, twins, deedsOf(draws(n)+"sync; "+draws(2)+"crash"))
	}
}

func TestPicturesThatHaveBeenDrawn(t *testing.T) {
	s := exampleStudio(1)
	b, c, d := impl.Block{At: impl.Corner{0, -1}, Mask: impl.Mask{15: 1}}, impl.Block{At: impl.Corner{-1, 0}, Mask: impl.Mask{0x8000}}, impl.Block{Mask: impl.Mask{3, 1}}
	backwards := "give 0; deliver 0; work 0; copy 0; give 0; deliver 1; work 0; copy 1; give 0; deliver 2; work 0; copy 2; give 0; deliver 3; work 0; crash; deliver 3; deliver 2; "
	for text, want := range map[string][]impl.Block{
		"": nil, draws(1): nil, draws(2): {b}, draws(3): {b, c}, draws(4): {b, c, d}, draws(4) + "crash": nil, draws(2) + "sync; " + draws(2) + "crash": {b},
		"give 0; deliver 0; work 0": nil, backwards: {c, d}, backwards + "deliver 1": {b, c, d}, backwards + "sync; deliver 1; crash": {c, d},
	} {
		picture, code := impl.PictureAfter(s, deedsOf(text))
		wantPicture(t, "PictureAfter "+text, picture, code, want, impl.OK)
		wantBool(t, "ValidPicture of it", impl.ValidPicture(picture), 0, true, 0)
		checkDeeds(t, s, deedsOf(text))
	}
	empty := studioOf(sceneOf(1), impl.Corner{-3, 4}, impl.Corner{-2, 5}, 1)
	w := checkDeeds(t, empty, deedsOf(draws(4)))
	wantNumber(t, "corners without a cell", int64(len(w.drawn)), 4)
	wantNumber(t, "shelves of these", int64(len(w.house().Shelves)), 1)
}

// wantFinished checks that a plan can be done, and that all has been drawn behind it.
func wantFinished(t *testing.T, s impl.Studio, deeds []impl.Deed) {
	t.Helper()
	plan, code := impl.FinishDeeds(s, deeds)
	wantNumber(t, "code of FinishDeeds", code, impl.OK)
	_, done, _ := impl.HouseAfter(s, deeds)
	all := slices.Concat(deeds, plan)
	h, doneThen, code := impl.HouseAfter(s, all)
	wantNumber(t, "code of HouseAfter", code, impl.OK)
	wantNumber(t, "deeds of the plan that are done", doneThen-done, int64(len(plan)))
	corners, _ := impl.CornersOf(s)
	if len(h.Drawn) != len(corners) || h.Synced != int64(len(corners)) || len(h.Wire) != 0 || h.Hands[0].Busy {
		t.Errorf("behind the plan of %v: got %v", deeds, h)
	}
	missing, code := impl.MissingAfter(s, all)
	wantCorners(t, "MissingAfter the plan", missing, code, nil, impl.OK)
}

func TestFinishDeeds(t *testing.T) {
	each := "give 0; deliver 0; work 0; deliver 0; "
	for text, want := range map[string]string{
		"":        "quit 0; " + strings.Repeat(each, 4) + "sync",
		"sync":    "quit 0; " + strings.Repeat(each, 4) + "sync",
		"give 0":  "drop 0; quit 0; " + strings.Repeat(each, 4) + "sync",
		gives(12): strings.Repeat("drop 0; ", 12) + "quit 0; " + strings.Repeat(each, 4) + "sync",
		gives(13): strings.Repeat("drop 0; ", 12) + "quit 0; " + strings.Repeat(each, 4) + "sync",
		draws(1):  "quit 0; " + strings.Repeat(each, 3) + "sync",
		draws(3):  "quit 0; " + each + "sync",
		draws(4):  "quit 0; sync",

		draws(4) + "sync":                               "quit 0; sync",
		draws(4) + "crash":                              "quit 0; " + strings.Repeat(each, 4) + "sync",
		draws(2) + "sync; " + draws(1) + "crash":        "quit 0; " + strings.Repeat(each, 2) + "sync",
		"give 0; deliver 0":                             "quit 0; " + strings.Repeat(each, 4) + "sync",
		"give 1; deliver 0":                             "quit 0; " + strings.Repeat(each, 4) + "sync",
		"give 0; copy 0; work 0; spoil 1 3; give 1":     "drop 0; drop 0; drop 0; quit 0; " + strings.Repeat(each, 4) + "sync",
		draws(3) + "give 0; deliver 0; work 0; copy 0":  "drop 0; quit 0; sync",
		draws(3) + "give 1; deliver 0; work 1; quit 11": "drop 0; quit 0; " + each + "sync",
	} {
		for _, s := range []impl.Studio{exampleStudio(2), exampleStudio(4)} {
			plan, code := impl.FinishDeeds(s, deedsOf(text))
			wantDeeds(t, "FinishDeeds "+text, plan, code, deedsOf(want), impl.OK)
			wantFinished(t, s, deedsOf(text))
		}
	}
	random := rand.New(rand.NewSource(831))
	for range 150 {
		s := anyStudio(random)
		wantFinished(t, s, randomDeeds(random, s, random.Intn(150)))
	}
	// The greatest studio needs the longest plan.
	great := studioOf(sceneOf(1, discOp(0, 17)), impl.Corner{-3, -2}, impl.Corner{2, 1}, 4)
	plan, code := impl.FinishDeeds(great, deedsOf(gives(12)))
	wantNumber(t, "code of FinishDeeds", code, impl.OK)
	wantNumber(t, "deeds of the longest plan", int64(len(plan)), 12+1+4*24+1)
	wantFinished(t, great, deedsOf(gives(12)))
}

func TestPlansThatAreTooLong(t *testing.T) {
	s := exampleStudio(1)
	great := studioOf(sceneOf(1), impl.Corner{0, 0}, impl.Corner{23, 0}, 1)
	for _, c := range []struct {
		s     impl.Studio
		start string
		plan  int
	}{
		{s, "", 18}, {s, gives(12), 30}, {s, draws(4), 2}, {s, draws(3) + "give 0", 7}, {s, draws(4) + "crash", 18}, {great, "", 98}, {great, gives(12), 110}, {great, draws(24), 2},
	} {
		start := deedsOf(c.start)
		for _, behind := range []int{-2, -1, 0, 1, 2} {
			// Deeds that are left out count as well.
			for _, filling := range []string{"sync", "work 0", "give 99"} {
				number := 300 - c.plan + behind
				if number > 300 {
					continue
				}
				if strings.HasSuffix(c.start, "crash") && filling == "sync" {
					filling = "crash"
				}
				deeds := slices.Concat(start, slices.Repeat(deedsOf(filling), number-len(start)))
				plan, code := impl.FinishDeeds(c.s, deeds)
				want := int64(impl.OK)
				if behind > 0 {
					want = impl.ErrLimit
				}
				wantNumber(t, fmt.Sprint("FinishDeeds of ", len(deeds)), code, want)
				if code == impl.OK {
					wantNumber(t, "deeds of the plan", int64(len(plan)), int64(c.plan))
					wantFinished(t, c.s, deeds)
				} else if plan != nil {
					t.Errorf("FinishDeeds: got %v and %s", plan, impl.CodeName(code))
				}
			}
		}
	}
}

func TestMostDeeds(t *testing.T) {
	s, at := exampleStudio(1), impl.Corner{}
	all := deedsOf(draws(4) + "sync")
	fill := func(n int) []impl.Deed {
		return slices.Concat(all, slices.Repeat(deedsOf("work 0"), n-len(all)))
	}
	h, done, code := impl.HouseAfter(s, fill(300))
	wantWord(t, "HouseAfter 300", houseText(s, h), code, "abcd/ [abcd] -", impl.OK)
	wantNumber(t, "deeds that have been done", done, 17)
	checkDeeds(t, s, fill(299))
	checkDeeds(t, s, fill(300))
	for _, n := range []int{301, 302, 600, 1000000} {
		for _, corner := range []impl.Corner{at, {5, 5}} {
			wantAllCodes(t, fmt.Sprint(n, " deeds"), deedFunctions(s, fill(n), corner), impl.ErrRange)
		}
	}
	// A deed that is not valid is found ahead of that, wherever it stands, and so is a studio that is none.
	for _, n := range []int{1, 2, 300, 301, 5000} {
		for _, i := range []int{0, n / 2, n - 1} {
			for _, wrong := range []impl.Deed{{}, {Kind: 10}, {Kind: impl.DdSync, A: 1}, {Kind: impl.DdGive, B: 1}, {Kind: impl.DdGive, A: 1000}, {Kind: impl.DdSpoil, A: -1}, {Kind: impl.DdSpoil, B: 1000}, {Kind: -1}} {
				deeds := slices.Repeat(deedsOf("sync"), n)
				deeds[i] = wrong
				for _, corner := range []impl.Corner{at, {5, 5}} {
					wantAllCodes(t, fmt.Sprint(wrong, " among ", n), deedFunctions(s, deeds, corner), impl.ErrInvalid)
				}
			}
		}
		wantAllCodes(t, fmt.Sprint(n, " deeds in no studio"), deedFunctions(impl.Studio{}, slices.Repeat(deedsOf("sync"), n), at), impl.ErrInvalid)
		wantAllCodes(t, fmt.Sprint(n, " wrong deeds in no studio"), deedFunctions(impl.Studio{}, make([]impl.Deed, n), at), impl.ErrInvalid)
	}
}
