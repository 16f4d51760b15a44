package tests

import (
	"math/rand"
	"testing"

	"loop.example/g01171/impl"
)

// wantSets checks what becomes of two pictures, by the sets of their cells.
func wantSets(t *testing.T, a, b []impl.Block) {
	t.Helper()
	ofA, ofB := setOfBlocks(a), setOfBlocks(b)
	both := setOf()
	for _, s := range []cellSet{ofA, ofB} {
		for c := range s {
			both[c] = true
		}
	}
	want, wantCode := pictureOfSet(both), int64(impl.OK)
	if len(want) > impl.MaxBlocks {
		want, wantCode = nil, impl.ErrLimit
	}
	join, code := impl.JoinPictures(a, b)
	wantPicture(t, "JoinPictures", join, code, want, wantCode)
	meet, code := impl.MeetPictures(a, b)
	wantPicture(t, "MeetPictures", meet, code, pictureOfSet(ofA.picked(func(x, y int64) bool { return ofB[[2]int64{x, y}] })), impl.OK)
	minus, code := impl.MinusPictures(a, b)
	wantPicture(t, "MinusPictures", minus, code, pictureOfSet(ofA.picked(func(x, y int64) bool { return !ofB[[2]int64{x, y}] })), impl.OK)
	for _, list := range [][]impl.Block{join, meet, minus} {
		wantBool(t, "ValidPicture of the result", impl.ValidPicture(list), 0, true, 0)
	}
}

func TestTwoPictures(t *testing.T) {
	random := rand.New(rand.NewSource(530))
	for range 300 {
		a, b := randomPicture(random), randomPicture(random)
		wantSets(t, a, b)
		wantSets(t, a, a)
		wantSets(t, a, nil)
		wantSets(t, nil, a)
		// Some blocks have all cells of b, and some have none of them.
		c, _ := impl.MinusPictures(a, b)
		wantSets(t, a, c)
		wantSets(t, c, b)
		wantSets(t, c, a)
	}
	wantSets(t, nil, nil)
}

func TestTwoPicturesEdges(t *testing.T) {
	at := func(i, j int32, m impl.Mask) impl.Block { return impl.Block{At: impl.Corner{i, j}, Mask: m} }
	a := []impl.Block{at(-1, -1, impl.Mask{3}), at(0, 0, impl.Mask{0: 6, 4: 1}), at(2, 0, impl.Mask{9})}
	b := []impl.Block{at(-1, -1, impl.Mask{4}), at(0, 0, impl.Mask{0: 7, 4: 1, 5: 1}), at(1, 0, impl.Mask{8})}
	join, code := impl.JoinPictures(a, b)
	wantPicture(t, "JoinPictures", join, code, []impl.Block{at(-1, -1, impl.Mask{7}), at(0, 0, impl.Mask{0: 7, 4: 1, 5: 1}), at(1, 0, impl.Mask{8}), at(2, 0, impl.Mask{9})}, impl.OK)
	meet, code := impl.MeetPictures(a, b)
	wantPicture(t, "MeetPictures without an empty block", meet, code, []impl.Block{at(0, 0, impl.Mask{0: 6, 4: 1})}, impl.OK)
	minus, code := impl.MinusPictures(a, b)
	wantPicture(t, "MinusPictures without an empty block", minus, code, []impl.Block{at(-1, -1, impl.Mask{3}), at(2, 0, impl.Mask{9})}, impl.OK)
	minus, code = impl.MinusPictures(b, a)
	wantPicture(t, "MinusPictures the other way", minus, code, []impl.Block{at(-1, -1, impl.Mask{4}), at(0, 0, impl.Mask{0: 1, 5: 1}), at(1, 0, impl.Mask{8})}, impl.OK)
	wantSets(t, a, b)
}

func TestTwoPicturesLimits(t *testing.T) {
	cell := impl.Mask{1}
	all := rowOfBlocks(impl.MaxBlocks, -4, -4, cell)
	wantSets(t, all, all)
	wantSets(t, all, nil)
	wantSets(t, all[:32], all[32:])
	wantSets(t, all[:40], all[20:])
	other := rowOfBlocks(impl.MaxBlocks, -4, -4, impl.Mask{2})
	wantSets(t, all, other)
	wantSets(t, all[1:], other[:63])
	far := rowOfBlocks(impl.MaxBlocks, 100, -4, cell)
	list, code := impl.JoinPictures(all[:63], far[:1])
	wantNumber(t, "MaxBlocks blocks", int64(len(list)), impl.MaxBlocks)
	wantNumber(t, "code of MaxBlocks", code, impl.OK)
	list, code = impl.JoinPictures(all, far[:1])
	wantPicture(t, "one block more", list, code, nil, impl.ErrLimit)
	list, code = impl.JoinPictures(all[:33], far[:32])
	wantPicture(t, "one block more of two pictures", list, code, nil, impl.ErrLimit)
	wantSets(t, all, far)
	wantSets(t, all[:1], far)
	wantSets(t, rowOfBlocks(impl.MaxBlocks, -4, -4, fullMask()), all)
}
