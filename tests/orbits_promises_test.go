package tests

import (
	"math/rand"
	"reflect"
	"slices"
	"testing"

	"loop.example/g01171/impl"
)

// orbitFunctions tells all functions of orbits that return a code.
func orbitFunctions(f impl.Family, s, to impl.Spot, x complex64, a float32, w string, n int64) map[string]func() ([]any, int64) {
	return map[string]func() ([]any, int64){
		"ReadFamily":     func() ([]any, int64) { return boxed(impl.ReadFamily(impl.FamilyText(f))) },
		"LettersOf":      func() ([]any, int64) { return boxed(impl.LettersOf(f)) },
		"LetterMap":      func() ([]any, int64) { return boxed(impl.LetterMap(f, w)) },
		"OrbitOf":        func() ([]any, int64) { return boxed(impl.OrbitOf(f, s, n)) },
		"LimitPoints":    func() ([]any, int64) { return boxed(impl.LimitPoints(f, s, n)) },
		"LeavesOf":       func() ([]any, int64) { return boxed(impl.LeavesOf(f, x, a, n)) },
		"WordTo":         func() ([]any, int64) { return boxed(impl.WordTo(f, s, to, n)) },
		"FirstMeeting":   func() ([]any, int64) { return boxedTwo(impl.FirstMeeting(f, s, n)) },
		"NearIdentities": func() ([]any, int64) { return boxed(impl.NearIdentities(f, a, n)) },
		"FixedOfWord":    func() ([]any, int64) { return boxed(impl.FixedOfWord(f, w)) },
		"IsInPiece":      func() ([]any, int64) { return boxed(impl.IsInPiece(f, x)) },
		"LeadBack":       func() ([]any, int64) { return boxedTwo(impl.LeadBack(f, x, n)) },
		"HullOfOrbit":    func() ([]any, int64) { return boxed(impl.HullOfOrbit(f, s, n)) },
	}
}

// Together with an error all results are zero values; equal arguments have equal results; and no argument is changed.
func TestResultsOfOrbits(t *testing.T) {
	random := rand.New(rand.NewSource(450))
	codes := map[int64]int{}
	for range 300 {
		maps, isKept := guardedMaps(anyFamily(random, 4).Maps)
		f := impl.Family{Maps: maps}
		s, to, x := randomSpot(random), randomSpot(random), randomPoint(random)
		a := []float32{0.5, 0.01, infinite, 0, notNumber}[random.Intn(5)]
		w := randomWord(random, 1+random.Intn(4), random.Intn(4))
		n := random.Int63n(9) - 1
		copied := impl.Family{Maps: slices.Clone(maps)}
		checkCalls(t, orbitFunctions(f, s, to, x, a, w, n), orbitFunctions(copied, s, to, x, a, w, n), codes)
		if !isKept() || !sameFamilies(f, copied) {
			t.Fatal("a family was changed")
		}
	}
	for code := int64(impl.OK); code <= impl.ErrBudget; code++ {
		if codes[code] == 0 && code != impl.ErrInvalid && code != impl.ErrSyntax {
			t.Errorf("no call returned %s", impl.CodeName(code))
		}
	}
}

// Results do not share memory with each other, nor with a family.
func TestResultsOfOrbitsAreNew(t *testing.T) {
	f := familyOf(impl.Map{B: 1, C: 1}, impl.Map{A: 1, B: 1, D: 1})
	text := impl.FamilyText(f)
	for range 2 {
		g, _ := impl.ReadFamily(text)
		visits, _ := impl.OrbitOf(g, near(2), 2)
		points, _ := impl.LimitPoints(g, near(2), 2)
		leaves, _ := impl.LeavesOf(g, 2, 0.5, 2)
		words, _ := impl.NearIdentities(g, 0, 2)
		spots, _ := impl.FixedOfWord(g, "a")
		hull, _ := impl.HullOfOrbit(g, near(2), 2)
		wantNumber(t, "visits", int64(len(visits)), 17)
		wantVisits(t, "OrbitOf", visits[:2], 0, visitsOf("", 2+0i, "a", 0.5+0i), 0)
		wantVisits(t, "LeavesOf", leaves[:1], 0, visitsOf("a", 0.5+0i), 0)
		wantWords(t, "NearIdentities", words, 0, []string{"aa", "AA"}, 0)
		wantSpots(t, "FixedOfWord", spots, 0, nearAll(1, -1), 0)
		if len(points) < 2 || points[0] != -0.5 || len(hull) != 2 || hull[1] != 4 {
			t.Errorf("points %v, hull %v", points, hull)
		}
		g.Maps[0], g.Maps[1] = impl.Map{A: 7}, impl.Map{A: 7}
		visits[0], visits[1], leaves[0], words[0], spots[0], points[0], hull[0] = impl.Visit{}, impl.Visit{}, impl.Visit{}, "d", farSpot, 7, 7
	}
	wantWord(t, "FamilyText", impl.FamilyText(f), 0, text, 0)
}

func TestOrbitFunctionsReturnForAllArguments(t *testing.T) {
	random := rand.New(rand.NewSource(451))
	for range 1500 {
		var maps []impl.Map
		for range random.Intn(7) {
			maps = append(maps, impl.Map{A: randomPoint(random), B: randomPoint(random), C: randomPoint(random), D: randomPoint(random)})
			if random.Intn(4) > 0 {
				maps[len(maps)-1] = randomMap(random)
			}
		}
		f := impl.Family{Maps: maps}
		spot := func() impl.Spot { return impl.Spot{Far: random.Intn(3) == 0, At: randomPoint(random)} }
		n := random.Int63() - random.Int63()
		if random.Intn(4) > 0 {
			n = random.Int63n(16) - 1
		}
		for _, call := range orbitFunctions(f, spot(), spot(), randomPoint(random), randomPart(random), anyWord(random), n) {
			call()
		}
		impl.ValidFamily(f)
		impl.SameFamily(f, impl.Family{Maps: maps[:len(maps)/2]})
	}
	many := impl.Family{Maps: make([]impl.Map, 100000)}
	for name, call := range orbitFunctions(many, farSpot, farSpot, 0, 1, "a", 1) {
		results, code := call()
		if want := int64(impl.ErrInvalid); name != "ReadFamily" && (code != want || !areZero(results)) {
			t.Errorf("%s of many maps: got %v and %d", name, results, code)
		}
	}
}

// Orbits have each word once, in order, with its spot, and words of shorter orbits begin those of longer ones.
func TestOrbitsHaveEachWordOnce(t *testing.T) {
	random := rand.New(rand.NewSource(452))
	for range 100 {
		f := anyFamily(random, 4)
		s := randomSpot(random)
		depth := random.Int63n(mostDepth(f) + 1)
		visits, code := impl.OrbitOf(f, s, depth)
		wantNumber(t, "code of OrbitOf", code, impl.OK)
		count := int64(0)
		for length := range depth + 1 {
			words, _ := impl.CountReduced(int64(len(f.Maps)), length)
			count += words
		}
		wantNumber(t, "words of OrbitOf", int64(len(visits)), count)
		for i, v := range visits {
			isReduced, _ := impl.IsReduced(v.Word)
			if !isReduced || i > 0 && wordOrder(visits[i-1].Word, v.Word) >= 0 {
				t.Errorf("OrbitOf %v: got %s at %d", f, v.Word, i)
			}
			at, code := impl.SpotOfWord(f.Maps, v.Word, s)
			wantSpot(t, "the spot of "+v.Word, v.Spot, impl.OK, at, code)
		}
		if depth > 0 {
			shorter, _ := impl.OrbitOf(f, s, depth-1)
			wantVisits(t, "OrbitOf with less depth", shorter, 0, visits[:len(shorter)], 0)
		}
	}
}

func TestExampleOfChapter6(t *testing.T) {
	f := shifts(1)
	visits, code := impl.OrbitOf(f, near(0), 2)
	wantVisits(t, "OrbitOf", visits, code, visitsOf("", 0i, "a", 1+0i, "A", -1+0i, "aa", 2+0i, "AA", -2+0i), impl.OK)
	w, code := impl.WordTo(f, near(0), near(2), 2)
	wantWord(t, "WordTo", w, code, "aa", impl.OK)
	times, flip := familyOf(impl.Map{A: 2, D: 1}), familyOf(impl.Map{B: 1, C: 1})
	for _, x := range []complex64{0, 1, -3i, complex(greatest, 1)} {
		isIn, code := impl.IsInPiece(times, x)
		wantBool(t, "IsInPiece", isIn, code, false, impl.OK)
	}
	w, at, code := impl.LeadBack(times, 1, 10)
	wantLed(t, "LeadBack", w, at, code, "", 0, impl.ErrBudget)
	w, at, code = impl.LeadBack(flip, 0.5, 10)
	wantLed(t, "LeadBack", w, at, code, "a", 2, impl.OK)
	words, code := impl.NearIdentities(flip, 0, 2)
	wantWords(t, "NearIdentities", words, code, []string{"aa", "AA"}, impl.OK)
	limits := []int64{impl.MaxVisits, impl.MaxDepth, impl.MaxBack, impl.MaxFamilyText}
	if !reflect.DeepEqual(limits, []int64{1500, 12, 40, 4000}) {
		t.Error("the limits are not those of the document")
	}
}
