package tests

import (
	"fmt"
	"math/rand"
	"slices"
	"testing"

	"loop.example/g01171/impl"
)

// guardedSpots returns a list with room behind it, and a function that reports whether list and room are as before.
func guardedSpots(list []impl.Spot) ([]impl.Spot, func() bool) {
	const room = 16
	whole := append(append(make([]impl.Spot, 0, len(list)+room), list...), repeatedSpot(near(12345), room)...)
	before := slices.Clone(whole)
	return whole[:len(list)], func() bool { return slices.EqualFunc(whole, before, sameSpots) }
}

func TestListsOfSpotsAreNotChanged(t *testing.T) {
	random := rand.New(rand.NewSource(150))
	for range 300 {
		m := randomMap(random)
		guarded, isKept := guardedSpots(randomSpots(random, random.Intn(20)))
		first, _ := impl.ApplyAll(m, guarded)
		if !isKept() {
			t.Fatal("a list was changed")
		}
		want := slices.Clone(first)
		second, _ := impl.ApplyAll(m, guarded)
		first = append(first, near(99))
		for i := range first {
			first[i] = near(77)
		}
		if !isKept() || !slices.EqualFunc(second, want, sameSpots) {
			t.Fatal("a result shares memory")
		}
		fixed, _ := impl.FixedSpots(m)
		want = slices.Clone(fixed)
		again, _ := impl.FixedSpots(m)
		for i := range fixed {
			fixed[i] = near(77)
		}
		if !slices.EqualFunc(again, want, sameSpots) {
			t.Fatal("two lists of fixed spots share memory")
		}
	}
}

// moebiusResults tells all that the functions of chapter 3 return, to the last bit.
func moebiusResults(m, n impl.Map, list []impl.Spot, x complex64, bound float32, power int64) string {
	text := fmt.Sprintln(impl.ValidMap(m), impl.SameMap(m, n), impl.MapText(m), bitsText(impl.RootOfPoint(x)))
	addMap := func(m impl.Map, code int64) { text += fmt.Sprintln(mapBits(m), code) }
	addSpots := func(list []impl.Spot, code int64) { text += fmt.Sprintln(spotsText(list), code) }
	addMap(impl.ReadMap(impl.MapText(m)))
	addMap(impl.ShiftMap(x))
	addMap(impl.TimesMap(x))
	addMap(impl.TidyMap(m))
	addMap(impl.ComposeMaps(m, n))
	addMap(impl.InverseMap(m))
	addMap(impl.PowerMap(m, power))
	addMap(impl.ConjugateMap(m, n))
	addSpots(impl.ApplyAll(m, list))
	addSpots(impl.FixedSpots(m))
	ratio, code := impl.RatioOf(m)
	kind, kindCode := impl.MapKind(m)
	stretch, stretchCode := impl.StretchAt(m, x)
	isAlike, alikeCode := impl.AreAlikeMaps(m, n, bound)
	text += fmt.Sprintln(bitsText(ratio), code, kind, kindCode, bitsOf(stretch), stretchCode, isAlike, alikeCode)
	s, u := near(x), farSpot
	if len(list) > 1 {
		s, u = list[0], list[1]
	}
	addMap(impl.ThroughThree(s, u, near(x)))
	cross, code := impl.CrossRatio(s, u, near(x), s)
	applied, appliedCode := impl.ApplyMap(m, s)
	return text + fmt.Sprintln(spotText(cross), code, spotText(applied), appliedCode, impl.ValidSpot(s), impl.SameSpot(s, u))
}

func TestEqualMapsHaveEqualResults(t *testing.T) {
	random := rand.New(rand.NewSource(151))
	for range 500 {
		m, n := randomMap(random), randomMap(random)
		list := randomSpots(random, random.Intn(20))
		x, power := randomPoint(random), int64(random.Intn(50)-25)
		copied, _ := guardedSpots(list)
		first, second := moebiusResults(m, n, list, x, real(x), power), moebiusResults(m, n, copied, x, real(x), power)
		if first != second {
			t.Errorf("first %s, then %s", first, second)
		}
	}
	m := impl.FlipMap()
	if moebiusResults(m, m, nil, 1, 1, 1) != moebiusResults(m, m, []impl.Spot{}, 1, 1, 1) {
		t.Error("no list and an empty list differ")
	}
}

func TestMoebiusFunctionsReturnForAllParts(t *testing.T) {
	random := rand.New(rand.NewSource(152))
	spot := func() impl.Spot { return impl.Spot{Far: random.Intn(3) == 0, At: randomPoint(random)} }
	for range 3000 {
		var parts [8]complex64
		for i := range parts {
			parts[i] = randomPoint(random)
		}
		m, n := mapOf([4]complex64(parts[:4])), mapOf([4]complex64(parts[4:]))
		list := []impl.Spot{spot(), spot(), spot()}
		moebiusResults(m, n, list, randomPoint(random), randomPart(random), random.Int63()-random.Int63())
	}
}

// Results that are maps or spots are valid, also where arguments have parts of all sizes.
func TestResultsOfMapsAreValid(t *testing.T) {
	random := rand.New(rand.NewSource(153))
	for range 1000 {
		m, n := randomMap(random), randomMap(random)
		tidy, tidyCode := impl.TidyMap(m)
		both, bothCode := impl.ComposeMaps(m, n)
		inverse, inverseCode := impl.InverseMap(m)
		power, powerCode := impl.PowerMap(m, int64(random.Intn(41)-20))
		list := randomSpots(random, 3)
		through, throughCode := impl.ThroughThree(list[0], list[1], list[2])
		maps := []impl.Map{tidy, both, inverse, power, through}
		for i, code := range []int64{tidyCode, bothCode, inverseCode, powerCode, throughCode} {
			if isValidForTest(maps[i]) != (code == impl.OK) {
				t.Errorf("%s with the code %s", mapBits(maps[i]), impl.CodeName(code))
			}
		}
		fixed, _ := impl.FixedSpots(m)
		taken, _ := impl.ApplyAll(m, list)
		for _, s := range append(fixed, taken...) {
			wantBool(t, "ValidSpot "+spotText(s), impl.ValidSpot(s), 0, true, 0)
		}
	}
}

func TestExampleOfChapter3(t *testing.T) {
	flip := impl.FlipMap()
	taken, code := impl.ApplyAll(flip, []impl.Spot{near(2), near(0), farSpot})
	wantSpots(t, "FlipMap", taken, code, []impl.Spot{near(0.5), farSpot, near(0)}, impl.OK)
	shift, _ := impl.ShiftMap(1)
	times, _ := impl.TimesMap(2)
	both, code := impl.ComposeMaps(shift, times)
	wantMap(t, "ComposeMaps", both, code, impl.Map{A: 1, B: 0.5, D: 0.5}, impl.OK)
	seven, code := impl.ApplyMap(both, near(3))
	wantSpot(t, "ApplyMap", seven, code, near(7), impl.OK)
	ratio, code := impl.RatioOf(shift)
	wantPoint(t, "RatioOf", ratio, code, 4, impl.OK)
	wantKind(t, shift, impl.MkParabolic, impl.OK)
	wantPoint(t, "RootOfPoint", impl.RootOfPoint(-4), 0, 2i, 0)
	wantPoint(t, "RootOfPoint", impl.RootOfPoint(3+4i), 0, 2+1i, 0)
	fixed, code := impl.FixedSpots(times)
	if len(fixed) != 2 || fixed[0].Far || fixed[0].At != 0 || !sameSpots(fixed[1], farSpot) || code != impl.OK {
		t.Errorf("FixedSpots: got %v and %d", fixed, code)
	}
	through, code := impl.ThroughThree(near(0), near(1), farSpot)
	if through != impl.IdentityMap() || code != impl.OK {
		t.Errorf("ThroughThree: got %v and %d", through, code)
	}
}
