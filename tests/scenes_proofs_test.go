package tests

import (
	"fmt"
	"math"
	"math/rand"
	"slices"
	"strings"
	"testing"

	"loop.example/g01171/impl"
)

// isProof tells whether there is a proof, and the code of CheckProof.
func (k sketch) isProof(c impl.Cell, p impl.Proof) (bool, int64) {
	if p.Op < 0 || p.Op >= int64(len(k.visits)) {
		return false, impl.ErrRange
	}
	o, side := k.scene.Ops[p.Op], k.scene.Side
	if o.Kind == impl.OpOrbit || o.Kind == impl.OpLimit {
		letters := letterOrder[:2*len(o.Family.Maps)]
		isOfFamily := strings.Trim(p.Word, letters) == "" && isWordReduced(p.Word)
		length := int64(len(p.Word))
		if !isOfFamily || length > o.Depth || o.Kind == impl.OpLimit && length < o.Depth {
			return false, impl.OK
		}
		at, isCell := cellOfVisit(impl.Visit{Spot: spotOfWordForTest(o.Family.Maps, p.Word, o.Spot)}, side)
		return isCell && at == c, impl.OK
	}
	return slices.ContainsFunc(k.visits[p.Op], func(v impl.Visit) bool {
		at, isCell := cellOfVisit(v, side)
		return isCell && at == c && v.Word == p.Word
	}), k.codes[p.Op]
}

func checkProof(t *testing.T, k sketch, c impl.Cell, p impl.Proof) bool {
	t.Helper()
	isProof, code := impl.CheckProof(k.scene, c, p)
	want, wantCode := k.isProof(c, p)
	wantBool(t, fmt.Sprint("CheckProof ", c, " by ", p, " of ", sceneText(k.scene)), isProof, code, want, wantCode)
	return isProof
}

// Each cell of the picture has a proof, which is accepted, and no other cell has one.
func TestProofs(t *testing.T) {
	random := rand.New(rand.NewSource(660))
	accepted, refused, later := 0, 0, 0
	for range 100 {
		s := randomScene(random)
		k := sketchOf(s)
		cells := k.cells.inRows()
		for range 20 {
			cells = append(cells, [2]int32{random.Int31n(40) - 20, random.Int31n(40) - 20})
		}
		for i, c := range cells {
			want, isCell := k.proofs[c]
			wantCode := int64(impl.OK)
			switch {
			case k.code != impl.OK:
				want, wantCode = impl.Proof{}, k.code
			case !isCell:
				wantCode = impl.ErrNotFound
			}
			if i%7 != 0 && len(cells) > 100 {
				continue
			}
			proof, code := impl.ProofOf(s, c)
			wantProof(t, fmt.Sprint("ProofOf ", c, " of ", sceneText(s)), proof, code, want, wantCode)
			if code == impl.OK {
				if !checkProof(t, k, c, proof) {
					t.Errorf("the proof %v of %v is not accepted", proof, c)
				}
				accepted++
				if proof.Op > 0 {
					later++
				}
			}
			proof.Op += random.Int63n(3) - 1
			if random.Intn(2) == 0 {
				proof.Word = randomReduced(random, 1+random.Intn(3), random.Intn(4))
			}
			if !checkProof(t, k, c, proof) {
				refused++
			}
		}
	}
	if accepted < 300 || refused < 300 || later < 100 {
		t.Errorf("%d proofs were accepted, %d of them of later operations, and %d refused", accepted, later, refused)
	}
}

// Visits are proofs of their cells, of no cell beside, and no proofs with another word.
func TestVisitsAreProofs(t *testing.T) {
	random := rand.New(rand.NewSource(661))
	for range 60 {
		s := randomScene(random)
		k := sketchOf(s)
		for i := range s.Ops {
			visits, code := impl.OpVisits(s, int64(i))
			if code != impl.OK {
				continue
			}
			for range min(20, len(visits)) {
				v := visits[random.Intn(len(visits))]
				c, isCell := cellOfVisit(v, s.Side)
				p := impl.Proof{Op: int64(i), Word: v.Word}
				if checkProof(t, k, c, p) != isCell {
					t.Errorf("the visit %v of %s is a proof: %v", v, sceneText(s), !isCell)
				}
				if checkProof(t, k, impl.Cell{c[0] + 1, c[1]}, p) && v.Word != "" {
					t.Errorf("the visit %v of %s is a proof of another cell", v, sceneText(s))
				}
				checkProof(t, k, impl.Cell{c[0], c[1] - 1}, p)
				checkProof(t, k, c, impl.Proof{Op: int64(i), Word: v.Word + "aA"})
				checkProof(t, k, c, impl.Proof{Op: int64(i), Word: wordInverse(v.Word)})
			}
		}
	}
}

func TestFirstProofs(t *testing.T) {
	f := shifts(1, 1)
	s := sceneOf(1, discOp(5, 0.5), limitOp(f, near(0), 1), orbitOp(f, near(0.5), 2), leavesOp(f, 2, 0.5, 1), discOp(0, 1), orbitOp(f, near(0), 2))
	cases := map[impl.Cell]impl.Proof{
		{5, 0}: {Op: 0}, {1, 0}: {Op: 1, Word: "a"}, {-1, 0}: {Op: 1, Word: "A"}, {0, 0}: {Op: 2}, {2, 0}: {Op: 2, Word: "aa"}, {-2, 0}: {Op: 2, Word: "AA"}, {3, 0}: {Op: 3, Word: "a"}, {0, 1}: {Op: 4}, {0, -1}: {Op: 4},
	}
	k := sketchOf(s)
	cells, _ := impl.CellsOfScene(s)
	wantNumber(t, "cells", int64(len(cells)), int64(len(cases)))
	for c, want := range cases {
		proof, code := impl.ProofOf(s, c)
		wantProof(t, fmt.Sprint("ProofOf ", c), proof, code, want, impl.OK)
		checkProof(t, k, c, proof)
	}
	for _, c := range []impl.Cell{{4, 0}, {6, 0}, {0, 2}, {1, 1}, {-3, 0}, {math.MaxInt32, math.MinInt32}, {1 << 20, 0}, {math.MinInt32, 0}} {
		proof, code := impl.ProofOf(s, c)
		wantProof(t, fmt.Sprint("ProofOf ", c), proof, code, impl.Proof{}, impl.ErrNotFound)
	}
	proof, code := impl.ProofOf(sceneOf(1), impl.Cell{})
	wantProof(t, "ProofOf without operations", proof, code, impl.Proof{}, impl.ErrNotFound)
	// There may be more cells and more blocks than can be drawn.
	proof, code = impl.ProofOf(sceneOf(1, discOp(0, 24)), impl.Cell{24, 0})
	wantProof(t, "ProofOf too many cells", proof, code, impl.Proof{}, impl.OK)
	proof, code = impl.ProofOf(sceneOf(1, discOp(0, 24)), impl.Cell{24, 1})
	wantProof(t, "ProofOf none of too many cells", proof, code, impl.Proof{}, impl.ErrNotFound)
}

func TestCheckProofOfOrbits(t *testing.T) {
	f := familyOf(impl.Map{A: 1, B: 1, D: 1}, impl.Map{A: 1, B: 1, D: 1}, impl.Map{B: 1, C: 1})
	orbit, limit := orbitOp(f, near(0.5), 3), limitOp(f, near(0.5), 3)
	long := strings.Repeat("a", 12)
	cases := []struct {
		o    impl.Op
		c    impl.Cell
		word string
		want bool
	}{
		{orbit, impl.Cell{0, 0}, "", true}, {orbit, impl.Cell{1, 0}, "a", true}, {orbit, impl.Cell{1, 0}, "b", true}, {orbit, impl.Cell{-1, 0}, "B", true}, {orbit, impl.Cell{2, 0}, "ab", true}, {orbit, impl.Cell{2, 0}, "ba", true}, {orbit, impl.Cell{3, 0}, "aba", true}, {orbit, impl.Cell{2, 0}, "c", true}, {orbit, impl.Cell{3, 0}, "ac", true}, {orbit, impl.Cell{0, 0}, "ca", true},
		{orbit, impl.Cell{4, 0}, "aaaa", false}, {limit, impl.Cell{4, 0}, "aaaa", false}, {limit, impl.Cell{2, 0}, "aa", false}, {limit, impl.Cell{0, 0}, "", false}, {limit, impl.Cell{3, 0}, "aab", true}, {limit, impl.Cell{3, 0}, "aaa", true}, {limit, impl.Cell{2, 0}, "aaa", false}, {limit, impl.Cell{3, 1}, "aaa", false},
		// Words that are not reduced are none of the visits.
		{orbit, impl.Cell{0, 0}, "aA", false}, {orbit, impl.Cell{0, 0}, "Bb", false}, {orbit, impl.Cell{1, 0}, "aAb", false}, {limit, impl.Cell{1, 0}, "aAb", false}, {limit, impl.Cell{1, 0}, "bAa", false}, {orbit, impl.Cell{0, 0}, "aB", true}, {limit, impl.Cell{1, 0}, "aBa", true}, {orbit, impl.Cell{0, 0}, "cC", false}, {orbit, impl.Cell{0, 0}, "cc", true},
		// Nor are those with other letters, and texts that are no words.
		{orbit, impl.Cell{0, 0}, "d", false}, {orbit, impl.Cell{1, 0}, "ad", false}, {orbit, impl.Cell{1, 0}, "D", false}, {orbit, impl.Cell{0, 0}, "x", false}, {orbit, impl.Cell{1, 0}, "a ", false}, {orbit, impl.Cell{0, 0}, " ", false}, {orbit, impl.Cell{0, 0}, "\x00", false}, {orbit, impl.Cell{1, 0}, "é", false}, {limit, impl.Cell{1, 0}, "aé", false}, {orbit, impl.Cell{0, 0}, strings.Repeat("aA", 30), false}, {orbit, impl.Cell{0, 0}, strings.Repeat("x", 100000), false}, {limit, impl.Cell{0, 0}, strings.Repeat("x", 3), false},
		{orbit, impl.Cell{1, 0}, "", false}, {orbit, impl.Cell{0, 1}, "", false}, {orbit, impl.Cell{1, 0}, "A", false}, {orbit, impl.Cell{-1, 0}, "a", false},
		{orbitOp(shifts(1), near(0), 12), impl.Cell{12, 0}, long, true}, {orbitOp(shifts(1), near(0), 12), impl.Cell{13, 0}, long + "a", false}, {limitOp(shifts(1), near(0), 12), impl.Cell{12, 0}, long, true}, {limitOp(shifts(1), near(0), 12), impl.Cell{11, 0}, long[1:], false}, {limitOp(shifts(1), near(0), 0), impl.Cell{0, 0}, "", true}, {orbitOp(shifts(1), near(0), 0), impl.Cell{1, 0}, "a", false}, {orbitOp(shifts(1), near(0), 1), impl.Cell{1, 0}, "b", false},
		// Spots that are far, that have no cell, or none of a picture.
		{orbitOp(shifts(1), farSpot, 2), impl.Cell{0, 0}, "", false}, {orbitOp(shifts(1), farSpot, 2), impl.Cell{1, 0}, "a", false}, {orbitOp(familyOf(impl.FlipMap()), near(0), 2), impl.Cell{0, 0}, "a", false}, {orbitOp(familyOf(impl.FlipMap()), near(0), 2), impl.Cell{0, 0}, "aa", true}, {orbitOp(familyOf(impl.FlipMap()), farSpot, 2), impl.Cell{0, 0}, "a", true},
		{orbitOp(shifts(1), near(1e30), 2), impl.Cell{0, 0}, "", false}, {orbitOp(shifts(1), near(1e6), 2), impl.Cell{1000000, 0}, "", true}, {orbitOp(shifts(1), near(1e6), 2), impl.Cell{1000001, 0}, "a", false}, {orbitOp(shifts(1), near(1e6), 2), impl.Cell{999999, 0}, "A", true}, {orbitOp(shifts(1i), near(-1e6i), 2), impl.Cell{0, -1000001}, "A", false}, {limitOp(shifts(1i), near(-1e6i), 1), impl.Cell{0, -1000001}, "A", false}, {limitOp(shifts(1i), near(-1e6i), 1), impl.Cell{0, -999999}, "a", true},
		// Orbits that are too long have proofs all the same.
		{orbitOp(shifts(1, 1i), near(0), 12), impl.Cell{12, 0}, long, true}, {limitOp(shifts(1, 1i), near(0), 12), impl.Cell{11, 1}, long[1:] + "b", true}, {orbitOp(shifts(1, 1i), near(0), 12), impl.Cell{12, 1}, long, false},
	}
	for _, c := range cases {
		s := sceneOf(1, c.o)
		p := impl.Proof{Word: c.word}
		isProof, code := impl.CheckProof(s, c.c, p)
		wantBool(t, fmt.Sprintf("CheckProof %v by %.20q of %v", c.c, c.word, c.o), isProof, code, c.want, impl.OK)
		if len(c.word) <= impl.MaxLetters {
			checkProof(t, sketchOf(s), c.c, p)
		}
	}
}

func TestCheckProofOfLeavesAndDiscs(t *testing.T) {
	quarter := familyOf(impl.Map{A: 0.25, D: 1})
	leaves, disc := leavesOp(quarter, 4, 0.5, 2), discOp(0, 1)
	cases := []struct {
		o    impl.Op
		c    impl.Cell
		word string
		want bool
		code int64
	}{
		{leaves, impl.Cell{1, 0}, "a", true, impl.OK}, {leaves, impl.Cell{64, 0}, "AA", true, impl.OK}, {leaves, impl.Cell{0, 0}, "aa", false, impl.OK}, {leaves, impl.Cell{16, 0}, "A", false, impl.OK}, {leaves, impl.Cell{4, 0}, "", false, impl.OK}, {leaves, impl.Cell{1, 0}, "AA", false, impl.OK}, {leaves, impl.Cell{64, 0}, "a", false, impl.OK}, {leaves, impl.Cell{1, 0}, "x", false, impl.OK}, {leaves, impl.Cell{1, 0}, "b", false, impl.OK}, {leaves, impl.Cell{1, 0}, "aaA", false, impl.OK}, {leaves, impl.Cell{1, 0}, strings.Repeat("a", 41), false, impl.OK},
		{disc, impl.Cell{0, 0}, "", true, impl.OK}, {disc, impl.Cell{0, -1}, "", true, impl.OK}, {disc, impl.Cell{1, 0}, "", true, impl.OK}, {disc, impl.Cell{1, 1}, "", false, impl.OK}, {disc, impl.Cell{2, 0}, "", false, impl.OK}, {disc, impl.Cell{0, 0}, "a", false, impl.OK}, {disc, impl.Cell{0, 0}, "x", false, impl.OK}, {disc, impl.Cell{0, 0}, "aA", false, impl.OK},
		{discOp(1e6, 1), impl.Cell{1000000, 0}, "", true, impl.OK}, {discOp(1e6, 1), impl.Cell{1000001, 0}, "", false, impl.OK}, {leavesOp(shifts(1), 1e6, 0.5, 1), impl.Cell{1000001, 0}, "a", false, impl.OK}, {leavesOp(shifts(1), 1e6, 0.5, 1), impl.Cell{999999, 0}, "A", true, impl.OK},
		// What is too much has no proofs.
		{discOp(0, 25), impl.Cell{0, 0}, "", false, impl.ErrLimit}, {discOp(0, 25), impl.Cell{99, 0}, "x", false, impl.ErrLimit}, {discOp(0, 24), impl.Cell{24, 0}, "", true, impl.OK}, {discOp(1e30, 1), impl.Cell{0, 0}, "", false, impl.ErrLimit}, {leavesOp(shifts(1, 1i), 0, 0.5, 7), impl.Cell{7, 0}, "aaaaaaa", false, impl.ErrLimit}, {leavesOp(shifts(1, 1i), 0, 0.5, 6), impl.Cell{6, 0}, "aaaaaa", true, impl.OK}, {leavesOp(familyOf(impl.Map{A: 0x1p100, D: 0x1p-100}), 1, 0.5, 1), impl.Cell{0, 0}, "", false, impl.ErrLimit},
		// A flip takes the spot far away, and its stretch is not found there.
		{leavesOp(familyOf(impl.FlipMap()), 0, 0.5, 1), impl.Cell{0, 0}, "a", false, impl.OK}, {leavesOp(familyOf(impl.FlipMap()), 0, 0.5, 2), impl.Cell{0, 0}, "aa", true, impl.OK},
	}
	for _, c := range cases {
		// Other operations do not matter, be there too much of them or not.
		for _, other := range []impl.Op{discOp(0, 1), discOp(0, 100), orbitOp(shifts(1), near(0), 3)} {
			s := sceneOf(1, other, c.o, other)
			isProof, code := impl.CheckProof(s, c.c, impl.Proof{Op: 1, Word: c.word})
			wantBool(t, fmt.Sprintf("CheckProof %v by %.20q of %v", c.c, c.word, c.o), isProof, code, c.want, c.code)
			checkProof(t, sketchOf(s), c.c, impl.Proof{Op: 1, Word: c.word})
		}
	}
}

func TestCheckProofOfNoOperations(t *testing.T) {
	for _, op := range []int64{4, -1, 5, 1 << 32, -1 << 32, -1 << 63, 1<<63 - 1} {
		for _, word := range []string{"", "a", "x", strings.Repeat("a", 41)} {
			isProof, code := impl.CheckProof(everyKind(), impl.Cell{}, impl.Proof{Op: op, Word: word})
			wantBool(t, fmt.Sprint("CheckProof of ", op), isProof, code, false, impl.ErrRange)
			isProof, code = impl.CheckProof(sceneOf(1, discOp(0, 100)), impl.Cell{}, impl.Proof{Op: op, Word: word})
			wantBool(t, fmt.Sprint("CheckProof of too much and ", op), isProof, code, false, impl.ErrRange)
		}
	}
	isProof, code := impl.CheckProof(sceneOf(1), impl.Cell{}, impl.Proof{})
	wantBool(t, "CheckProof without operations", isProof, code, false, impl.ErrRange)
	isProof, code = impl.CheckProof(sceneOf(0, discOp(0, 100)), impl.Cell{}, impl.Proof{Op: 9})
	wantBool(t, "CheckProof of an invalid scene", isProof, code, false, impl.ErrInvalid)
}
