package tests

import (
	"fmt"
	"math/rand"
	"slices"
	"strings"
	"testing"

	"loop.example/g01171/impl"
)

// deedCodes tells what each deed returns: one that is refused is left out before the next one is tried.
func deedCodes(s impl.Studio, deeds []impl.Deed) []int64 {
	var done []impl.Deed
	codes := make([]int64, len(deeds))
	for i, d := range deeds {
		_, bad, code := impl.RefusedDeed(s, append(slices.Clone(done), d))
		if code == impl.ErrNotFound {
			done = append(done, d)
		}
		codes[i] = bad
	}
	return codes
}

// wantAfter checks what there is after deeds, the code of the last one, and all else that is told of them.
func wantAfter(t *testing.T, s impl.Studio, text, want string, wantCode int64) {
	t.Helper()
	deeds := deedsOf(text)
	checkDeeds(t, s, deeds)
	h, _, _ := impl.HouseAfter(s, deeds)
	wantWord(t, "HouseAfter "+text, houseText(s, h), 0, want, 0)
	code := int64(impl.OK)
	if len(deeds) > 0 {
		code = deedCodes(s, deeds)[len(deeds)-1]
	}
	wantNumber(t, "the code of the last one of "+text, code, wantCode)
}

// draws tells the deeds in which the worker 0 draws so many corners, if nothing is on the wire.
func draws(n int) string { return strings.Repeat("give 0; deliver 0; work 0; deliver 0; ", n) }

func gives(n int) string { return strings.Repeat("give 0; ", n) }

// outcome is what there is after deeds in short, and the code of the last one.
type outcome struct {
	deeds, want string
	code        int64
}

func TestDeedsOfOneWorker(t *testing.T) {
	full := strings.Repeat(" >0a", 12)
	for _, c := range []outcome{
		{"", "/ [] -", 0},
		{"give 0", "/ [] - >0a", 0},
		{"give 1", "/ [] -", impl.ErrRange},
		{"give 999", "/ [] -", impl.ErrRange},
		{"give 0; give 0", "/ [] - >0a >0a", 0},
		{gives(11) + "give 0", "/ [] -" + full, 0},
		{gives(12) + "give 0", "/ [] -" + full, impl.ErrLimit},
		{gives(12) + "give 1", "/ [] -" + full, impl.ErrRange},
		{draws(3) + "give 0", "/abc [abc] - >0d", 0},
		{draws(4) + "give 0", "/abcd [abcd] -", impl.ErrState},
		{draws(4) + "give 1", "/abcd [abcd] -", impl.ErrRange},

		{"work 0", "/ [] -", impl.ErrState},
		{"work 1", "/ [] -", impl.ErrRange},
		{"give 0; work 0", "/ [] - >0a", impl.ErrState},
		{"give 0; deliver 0; work 0", "/ [] - <0a", 0},
		{"give 0; deliver 0; work 1", "/ [] a", impl.ErrRange},
		{"give 0; deliver 0; work 0; work 0", "/ [] - <0a", impl.ErrState},
		{"give 0; deliver 0; " + gives(11) + "work 0", "/ [] -" + strings.Repeat(" >0a", 11) + " <0a", 0},
		{"give 0; deliver 0; " + gives(12) + "work 0", "/ [] a" + full, impl.ErrLimit},
		{"give 0; deliver 0; " + gives(12) + "work 1", "/ [] a" + full, impl.ErrRange},
		{"give 0; deliver 0; " + gives(12) + "work 0; drop 5; work 0", "/ [] -" + strings.Repeat(" >0a", 11) + " <0a", 0},
		{gives(12) + "work 0", "/ [] -" + full, impl.ErrState},

		{"deliver 0", "/ [] -", impl.ErrRange},
		{"copy 0", "/ [] -", impl.ErrRange},
		{"drop 0", "/ [] -", impl.ErrRange},
		{"spoil 0 0", "/ [] -", impl.ErrRange},
		{"give 0; deliver 1", "/ [] - >0a", impl.ErrRange},
		{"give 0; copy 1", "/ [] - >0a", impl.ErrRange},
		{"give 0; drop 1", "/ [] - >0a", impl.ErrRange},
		{"give 0; deliver 0", "/ [] a", 0},
		{"give 0; copy 0", "/ [] a >0a", 0},
		{"give 0; drop 0", "/ [] -", 0},
		{"give 0; copy 0; copy 0", "/ [] a >0a", 0},
		{"give 0; copy 0; deliver 0", "/ [] a", 0},
		{"give 0; deliver 0; deliver 0", "/ [] a", impl.ErrRange},
		{gives(12) + "deliver 11", "/ [] a" + strings.Repeat(" >0a", 11), 0},
		{gives(12) + "deliver 12", "/ [] -" + full, impl.ErrRange},
		{gives(12) + "copy 11", "/ [] a" + full, 0},

		{"quit 0", "/ [] -", 0},
		{"quit 1", "/ [] -", impl.ErrRange},
		{"give 0; deliver 0; quit 0", "/ [] -", 0},
		{"give 0; deliver 0; quit 1", "/ [] a", impl.ErrRange},
		{"give 0; deliver 0; quit 0; work 0", "/ [] -", impl.ErrState},
		{"give 0; quit 0", "/ [] - >0a", 0},
		{"give 0; copy 0; quit 0", "/ [] - >0a", 0},
		{"give 0; copy 0; quit 0; deliver 0", "/ [] a", 0},
		{"give 0; copy 0; quit 0; quit 0", "/ [] - >0a", 0},
	} {
		wantAfter(t, exampleStudio(1), c.deeds, c.want, c.code)
	}
}

func TestParcelsThatComeIn(t *testing.T) {
	for _, c := range []outcome{
		{"give 0; deliver 0; work 0; deliver 0", "/a [a] --", 0},
		{"give 0; deliver 0; work 0; copy 0", "/a [a] -- <0a", 0},
		{"give 0; deliver 0; work 0; copy 0; copy 0", "/a [a] -- <0a", 0},
		{"give 0; deliver 0; work 0; copy 0; deliver 0", "/a [a] --", 0},
		{"give 0; deliver 0; work 0; drop 0", "/ [] --", 0},
		{"give 0; deliver 0; work 0; drop 0; give 0", "/ [] -- >0a", 0},
		// A hand that is full takes nothing, be it the same corner or another one.
		{"give 0; copy 0; work 0; copy 1; give 0; copy 2; copy 0", "/a [a] b- >0a <0a >0b", 0},
		{"give 0; copy 0; work 0; copy 1; give 0; copy 0; copy 2", "/a [a] a- >0a <0a >0b", 0},
		{"give 0; copy 0; work 0; copy 1; give 0; copy 0; deliver 2", "/a [a] a- >0a <0a", 0},
		// Each worker has a hand of its own.
		{"give 1; deliver 0", "/ [] -a", 0},
		{"give 1; give 0; deliver 0; deliver 0", "/ [] aa", 0},
		{"give 1; deliver 0; work 0", "/ [] -a", impl.ErrState},
		{"give 1; deliver 0; work 1", "/ [] -- <1a", 0},
		{"give 1; deliver 0; quit 0", "/ [] -a", 0},
		{"give 1; deliver 0; quit 1", "/ [] --", 0},
		{"give 1; deliver 0; quit 2", "/ [] -a", impl.ErrRange},
		{"give 2", "/ [] --", impl.ErrRange},
		// One block is drawn by two workers, and the one that comes in first counts.
		{"give 0; give 1; deliver 0; deliver 0; work 0; work 1; deliver 1; deliver 0", "/a [a] --", 0},
		{"give 0; give 1; deliver 0; work 0; deliver 1; deliver 0", "/a [a] -a", 0},
		{"give 0; give 1; deliver 0; work 0; deliver 1; deliver 0; work 1; deliver 0", "/a [a] --", 0},
		{"give 0; give 1; deliver 0; deliver 0; work 0; work 1; spoil 0 3; deliver 0; deliver 0", "/a [a] --", 0},
		{"give 0; deliver 0; work 0; deliver 0; give 1; deliver 0; work 1; deliver 0; give 0", "/ab [ab] -- >0c", 0},
		// Corners come in as they are drawn, and not in their order.
		{"give 0; deliver 0; work 0; copy 0; give 1; crash; deliver 1; work 1; deliver 1; deliver 0", "/ba [ba] --", 0},
		{draws(4) + "drop 0", "/abcd [abcd] --", impl.ErrRange},
	} {
		wantAfter(t, exampleStudio(2), c.deeds, c.want, c.code)
	}
}

func TestSpoiltParcels(t *testing.T) {
	back := "give 0; deliver 0; work 0; "
	for _, c := range []outcome{
		{back + "spoil 0 0", "/ [] - <0a*", 0},
		{back + "spoil 0 15", "/ [] - <0a*", 0},
		{back + "spoil 0 16", "/ [] - <0a", impl.ErrRange},
		{back + "spoil 0 17", "/ [] - <0a", impl.ErrRange},
		{back + "spoil 0 999", "/ [] - <0a", impl.ErrRange},
		{back + "spoil 1 0", "/ [] - <0a", impl.ErrRange},
		{back + "spoil 1 16", "/ [] - <0a", impl.ErrRange},
		{"give 0; spoil 0 0", "/ [] - >0a", impl.ErrState},
		{"give 0; spoil 0 15", "/ [] - >0a", impl.ErrState},
		{"give 0; spoil 0 16", "/ [] - >0a", impl.ErrRange},
		{"give 0; spoil 1 0", "/ [] - >0a", impl.ErrRange},
		{"give 0; give 0; deliver 0; work 0; spoil 0 3", "/ [] - >0a <0a", impl.ErrState},
		{"give 0; give 0; deliver 0; work 0; spoil 1 3", "/ [] - >0a <0a*", 0},
		{back + "spoil 0 3; deliver 0", "/ [] -", 0},
		{back + "spoil 0 3; copy 0", "/ [] - <0a*", 0},
		{back + "spoil 0 3; spoil 0 3", "/ [] - <0a", 0},
		{back + "spoil 0 3; spoil 0 3; deliver 0", "/a [a] -", 0},
		{back + "spoil 0 3; copy 0; spoil 0 3; copy 0", "/a [a] - <0a", 0},
		{back + "spoil 0 3; spoil 0 4; deliver 0", "/ [] -", 0},
		{back + "spoil 0 3; spoil 0 4; spoil 0 3; deliver 0", "/ [] -", 0},
		{back + "spoil 0 3; spoil 0 4; spoil 0 3; spoil 0 4; deliver 0", "/a [a] -", 0},
		{back + "copy 0; spoil 0 3; copy 0", "/a [a] - <0a*", 0},
		{back + "spoil 0 16; deliver 0", "/a [a] -", 0},
		{back + "spoil 0 3; deliver 0; give 0", "/ [] - >0a", 0},
		{back + "spoil 0 3; deliver 0; " + draws(1), "/a [a] -", 0},
	} {
		wantAfter(t, exampleStudio(1), c.deeds, c.want, c.code)
	}
	for bit := range int64(16) {
		s, deeds := exampleStudio(1), deedsOf(draws(3)+"give 0; deliver 0; work 0; "+fmt.Sprint("spoil 0 ", bit))
		h, _, code := impl.HouseAfter(s, deeds)
		wantNumber(t, "code of HouseAfter", code, impl.OK)
		wantMask(t, fmt.Sprint("the mask without the bit ", bit), h.Wire[0].Mask, 0, impl.Mask{3 ^ 1<<bit, 1}, 0)
		wantBool(t, "the key is as before", h.Wire[0].Key == maskKeyForTest(impl.Mask{3, 1}), 0, true, 0)
		wantAfter(t, s, draws(3)+"give 0; deliver 0; work 0; "+fmt.Sprint("spoil 0 ", bit, "; deliver 0"), "/abc [abc] -", 0)
	}
}

// TestErrorsAtOnce has deeds for which there are two errors, of which the first one counts.
func TestErrorsAtOnce(t *testing.T) {
	// All have been drawn, and the wire is full.
	all := strings.Repeat("give 0; copy 0; work 0; ", 1) + "copy 1; "
	for i := range 3 {
		all += fmt.Sprintf("give 0; copy %d; work 0; copy %d; ", 2*i+2, 2*i+3)
	}
	all += strings.Repeat("copy 0; work 0; ", 4)
	s := exampleStudio(1)
	h, _, _ := impl.HouseAfter(s, deedsOf(all))
	wantWord(t, "HouseAfter", houseText(s, h), 0, "/abcd [abcd] - >0a <0a >0b <0b >0c <0c >0d <0d <0a <0a <0a <0a", 0)
	for _, c := range []struct {
		deed string
		code int64
	}{
		{"give 0", impl.ErrState}, {"give 1", impl.ErrRange}, {"work 0", impl.ErrState}, {"work 1", impl.ErrRange},
		{"copy 0; work 0", impl.ErrLimit}, {"copy 0; work 1", impl.ErrRange}, {"copy 0; give 0", impl.ErrState}, {"copy 0; give 1", impl.ErrRange},
		{"crash; give 0", impl.ErrLimit}, {"crash; give 1", impl.ErrRange}, {"drop 0; give 0", impl.ErrState}, {"drop 0; crash; give 0", 0},
		{"drop 0; work 0", impl.ErrState}, {"drop 0; copy 1; work 0", 0}, {"drop 0; copy 0; work 0", impl.ErrState}, {"copy 0; drop 0; work 0", 0},
		{"spoil 12 16", impl.ErrRange}, {"spoil 12 0", impl.ErrRange}, {"spoil 0 16", impl.ErrRange}, {"spoil 0 15", impl.ErrState}, {"spoil 11 15", 0}, {"spoil 11 16", impl.ErrRange},
		{"deliver 12", impl.ErrRange}, {"copy 12", impl.ErrRange}, {"drop 12", impl.ErrRange}, {"quit 1", impl.ErrRange}, {"quit 0", 0},
	} {
		deeds := deedsOf(all + c.deed)
		checkDeeds(t, s, deeds)
		wantNumber(t, "the code of "+c.deed, deedCodes(s, deeds)[len(deeds)-1], c.code)
	}
}

func TestWorkersNumbers(t *testing.T) {
	for workers := int64(1); workers <= 4; workers++ {
		for a := range int64(7) {
			for _, word := range []string{"give", "work", "quit"} {
				want := int64(impl.OK)
				if word == "work" {
					want = impl.ErrState
				}
				if a >= workers {
					want = impl.ErrRange
				}
				deeds := deedsOf(fmt.Sprint(word, " ", a))
				checkDeeds(t, exampleStudio(workers), deeds)
				wantNumber(t, fmt.Sprint(word, " ", a, " of ", workers), deedCodes(exampleStudio(workers), deeds)[0], want)
			}
		}
	}
}

func TestCrashes(t *testing.T) {
	copies := "give 0; deliver 0; work 0; copy 0; give 0; deliver 1; work 0; copy 1; give 0; deliver 2; work 0; copy 2; "
	for _, c := range []outcome{
		// The masks of a, b and e are one, and so are those of d and f; c has none of the cells.
		{draws(6), "/abcdef [acd] --", 0},
		{"crash", "/ [] --", 0},
		{"sync", "/ [] --", 0},
		{"sync; crash", "/ [] --", 0},
		{draws(1) + "sync", "a/ [a] --", 0},
		{draws(1) + "sync; sync", "a/ [a] --", 0},
		{draws(1) + "sync; " + draws(1), "a/b [a] --", 0},
		{draws(3) + "crash", "/ [] --", 0},
		{draws(3) + "sync; crash", "abc/ [ac] --", 0},
		{draws(3) + "sync; sync; crash; crash", "abc/ [ac] --", 0},
		{draws(6) + "sync; crash", "abcdef/ [acd] --", 0},
		{draws(6) + "crash", "/ [] --", 0},
		// A mask stays that synced corners want as well as lost ones.
		{draws(1) + "sync; " + draws(1) + "crash", "a/ [a] --", 0},
		{draws(2) + "sync; " + draws(3) + "crash", "ab/ [a] --", 0},
		{draws(4) + "sync; " + draws(2) + "crash", "abcd/ [acd] --", 0},
		{draws(3) + "sync; " + draws(1) + "crash", "abc/ [ac] --", 0},
		{draws(3) + "sync; " + draws(1) + "crash; crash", "abc/ [ac] --", 0},
		{draws(3) + "sync; " + draws(1) + "crash; sync; crash", "abc/ [ac] --", 0},
		{draws(3) + "sync; " + draws(2) + "crash; " + draws(1), "abc/d [acd] --", 0},
		{draws(3) + "sync; " + draws(2) + "crash; " + draws(1) + "sync", "abcd/ [acd] --", 0},
		{draws(3) + "sync; " + draws(2) + "crash; " + draws(2) + "crash", "abc/ [ac] --", 0},
		{draws(3) + "sync; " + draws(2) + "crash; " + draws(2) + "sync; " + draws(1) + "crash", "abcde/ [acd] --", 0},
		{draws(1) + "crash; " + draws(1) + "sync; " + draws(1) + "crash; " + draws(2), "a/bc [ac] --", 0},
		// What is on the wire and in the hands is kept.
		{"give 0; crash", "/ [] -- >0a", 0},
		{"give 1; deliver 0; crash", "/ [] -a", 0},
		{"give 1; deliver 0; crash; work 1", "/ [] -- <1a", 0},
		{"give 0; deliver 0; work 0; crash", "/ [] -- <0a", 0},
		{"give 0; deliver 0; work 0; crash; deliver 0", "/a [a] --", 0},
		{"give 0; deliver 0; work 0; spoil 0 2; crash", "/ [] -- <0a*", 0},
		{"give 0; deliver 0; work 0; spoil 0 2; crash; spoil 0 2; deliver 0", "/a [a] --", 0},
		{"give 0; deliver 0; work 0; copy 0; crash", "/ [] -- <0a", 0},
		{"give 0; deliver 0; work 0; copy 0; crash; deliver 0", "/a [a] --", 0},
		{"give 0; deliver 0; work 0; copy 0; give 1; deliver 1; give 0; crash", "/ [] -b <0a >0b", 0},
		{"give 0; deliver 0; work 0; copy 0; give 1; deliver 1; give 0; crash; crash; give 0", "/ [] -b <0a >0b >0a", 0},
		// Lost corners are given again.
		{draws(2) + "crash; give 0", "/ [] -- >0a", 0},
		{draws(2) + "sync; " + draws(2) + "crash; give 1", "ab/ [a] -- >1c", 0},
		{draws(6) + "give 0; crash; give 0", "/ [] -- >0a", 0},
		{draws(6) + "sync; crash; give 0", "abcdef/ [acd] --", impl.ErrState},
		// They may come in again in another order, and so may their masks.
		{copies + "crash", "/ [] -- <0a <0b <0c", 0},
		{copies + "crash; deliver 2; deliver 1; deliver 0", "/cba [ca] --", 0},
		{copies + "crash; copy 2; sync; deliver 1; deliver 0; crash", "c/ [c] -- <0c", 0},
		{copies + "crash; copy 1; sync; copy 0; copy 2; crash; give 0", "b/ [a] -- <0a <0b <0c >0a", 0},
		{copies + "crash; copy 1; sync; copy 2; copy 0; crash; copy 0; copy 2", "b/ac [ac] -- <0a <0b <0c", 0},
		{copies + "sync; crash; deliver 2; deliver 1; deliver 0", "abc/ [ac] --", 0},
	} {
		wantAfter(t, twinStudio(2), c.deeds, c.want, c.code)
	}
}

// Fields that a hand or a parcel does not use are 0.
func TestFieldsOfHouses(t *testing.T) {
	s := exampleStudio(3)
	deeds := deedsOf("give 2; copy 0; give 1; deliver 1; work 2; quit 1; give 1")
	h, done, code := impl.HouseAfter(s, deeds)
	empty := maskKeyForTest(impl.Mask{})
	a := impl.Corner{-1, -1}
	want := impl.House{Hands: make([]impl.Hand, 3), Wire: []impl.Parcel{{Worker: 2, At: a}, {Back: true, Worker: 2, At: a, Key: empty}, {Worker: 1, At: a}}}
	wantHouse(t, "HouseAfter", h, done, code, want, 7, impl.OK)
	deeds = append(deeds, deedsOf("deliver 2; deliver 1; sync; give 0; copy 1; quit 0; deliver 1; work 0; spoil 1 1")...)
	h, done, code = impl.HouseAfter(s, deeds)
	b, m := impl.Corner{0, -1}, impl.Mask{15: 1}
	want = impl.House{
		Drawn: []impl.Drawn{{At: a, Key: empty}}, Shelves: []impl.Shelf{{Key: empty}}, Synced: 1, Hands: []impl.Hand{{}, {Busy: true, At: a}, {}},
		Wire: []impl.Parcel{{Worker: 2, At: a}, {Back: true, At: b, Mask: impl.Mask{0: 2, 15: 1}, Key: maskKeyForTest(m)}},
	}
	wantHouse(t, "HouseAfter", h, done, code, want, int64(len(deeds)), impl.OK)
}

func TestRandomDeeds(t *testing.T) {
	random := rand.New(rand.NewSource(820))
	codes := map[int64]int{}
	drawn, lost, synced, full, finished := 0, 0, 0, 0, 0
	for i := range 500 {
		s := anyStudio(random)
		n := random.Intn(120)
		if i%20 == 0 {
			n = 200 + random.Intn(101)
		}
		deeds := randomDeeds(random, s, n)
		w := checkDeeds(t, s, deeds)
		for _, code := range w.codes {
			codes[code]++
		}
		drawn, synced = drawn+len(w.drawn), synced+w.synced
		if len(w.wire) == 12 {
			full++
		}
		if len(w.missing()) == 0 {
			finished++
		}
		if w.synced < len(w.drawn) {
			h, _, _ := impl.HouseAfter(s, append(deeds, impl.Deed{Kind: impl.DdCrash})[:min(n+1, 300)])
			lost += len(w.drawn) - len(h.Drawn)
		}
	}
	wantOften(t, codes, 100, impl.OK, impl.ErrRange, impl.ErrState, impl.ErrLimit)
	if drawn < 500 || lost < 100 || synced < 200 || full < 20 || finished < 20 {
		t.Errorf("%d corners drawn, %d lost, %d synced, %d wires full, %d all drawn", drawn, lost, synced, full, finished)
	}
}
