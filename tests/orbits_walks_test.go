package tests

import (
	"fmt"
	"math/rand"
	"slices"
	"testing"

	"loop.example/g01171/impl"
)

func TestOrbitOf(t *testing.T) {
	random := rand.New(rand.NewSource(410))
	spots := edgeSpots()
	for range 120 {
		f := anyFamily(random, 4)
		depth := random.Int63n(mostDepth(f) + 1)
		s := randomSpot(random)
		if random.Intn(3) == 0 {
			s = spots[random.Intn(len(spots))]
		}
		visits, code := impl.OrbitOf(f, s, depth)
		want, wantCode := orbitForTest(f, s, depth)
		wantVisits(t, fmt.Sprint("OrbitOf ", f, s, depth), visits, code, want, wantCode)
		for _, v := range visits {
			at, code := impl.SpotOfWord(f.Maps, v.Word, s)
			wantSpot(t, "SpotOfWord "+v.Word, v.Spot, impl.OK, at, code)
		}
	}
}

// Each number of letters is walked through up to the depth behind which there are more than MaxVisits words.
func TestOrbitsOfAllDepths(t *testing.T) {
	f := shifts(1, 10, 100, 1000)
	for n, most := range map[int]int{1: 25, 2: 1457, 3: 937, 4: 457} {
		f := impl.Family{Maps: f.Maps[:n]}
		for depth := range int64(impl.MaxDepth + 1) {
			want, wantCode := orbitForTest(f, near(3), depth)
			visits, code := impl.OrbitOf(f, near(3), depth)
			wantVisits(t, fmt.Sprint("OrbitOf ", n, " maps with the depth ", depth), visits, code, want, wantCode)
			if depth == mostDepth(f) {
				wantNumber(t, "words", int64(len(visits)), int64(most))
			}
			points, code := impl.LimitPoints(f, farSpot, depth)
			wantPoints(t, "LimitPoints of the far spot", points, code, nil, wantCode)
			if wantCode == impl.OK {
				wantCode = impl.ErrNotFound
			}
			hull, code := impl.HullOfOrbit(f, farSpot, depth)
			wantPoints(t, "HullOfOrbit of the far spot", hull, code, nil, wantCode)
		}
	}
}

func TestOrbitOfEdges(t *testing.T) {
	half := familyOf(impl.Map{A: 1, B: 1, C: 1}) // 1 + 1 / z
	cases := []struct {
		f     impl.Family
		s     impl.Spot
		depth int64
		want  []impl.Visit
	}{
		{shifts(1), near(5), 0, visitsOf("", 5+0i)}, {shifts(1), farSpot, 0, visitsOf("", "far")},
		{shifts(1), farSpot, 1, visitsOf("", "far", "a", "far", "A", "far")}, {shifts(1), near(0), 2, visitsOf("", 0i, "a", 1+0i, "A", -1+0i, "aa", 2+0i, "AA", -2+0i)},
		{shifts(1, 1i), near(0), 1, visitsOf("", 0i, "a", 1+0i, "A", -1+0i, "b", 1i, "B", -1i)},
		{familyOf(impl.Map{A: 2, D: 1}, impl.Map{A: 1, B: 1, D: 1}), near(3), 2, visitsOf("", 3+0i, "a", 6+0i, "A", 1.5+0i, "b", 4+0i, "B", 2+0i, "aa", 12+0i, "ab", 8+0i, "aB", 4+0i, "AA", 0.75+0i, "Ab", 2+0i, "AB", 1+0i, "ba", 7+0i, "bA", 2.5+0i, "bb", 5+0i, "Ba", 5+0i, "BA", 0.5+0i, "BB", 1+0i)}, // the last letter is the first one to be done
		{familyOf(impl.FlipMap()), farSpot, 3, visitsOf("", "far", "a", 0i, "A", 0i, "aa", "far", "AA", "far", "aaa", 0i, "AAA", 0i)},
		{half, near(1), 3, visitsOf("", 1+0i, "a", 2+0i, "A", "far", "aa", 1.5+0i, "AA", 0i, "aaa", complex(float64(float32(5.0/3)), 0), "AAA", -1+0i)},
		{familyOf(impl.Map{A: 0x1p100, D: 0x1p-100}), near(1), 1, visitsOf("", 1+0i, "a", "far", "A", 0i)}, // its map cannot be composed
	}
	for _, c := range cases {
		visits, code := impl.OrbitOf(c.f, c.s, c.depth)
		wantEqualVisits(t, fmt.Sprint("OrbitOf ", c.f, c.s, c.depth), visits, code, c.want, impl.OK)
	}
}

// orbitCodes tells the codes of all functions that walk as OrbitOf does, all other results of which have to be zero values.
func orbitCodes(t *testing.T, f impl.Family, s impl.Spot, depth int64) []int64 {
	t.Helper()
	visits, first := impl.OrbitOf(f, s, depth)
	points, second := impl.LimitPoints(f, s, depth)
	hull, third := impl.HullOfOrbit(f, s, depth)
	w, fourth := impl.WordTo(f, s, near(99), depth)
	u, v, fifth := impl.FirstMeeting(f, s, depth)
	if visits != nil || points != nil || hull != nil || w+u+v != "" {
		t.Errorf("%v, %v and %d: got %v, %v, %v, %s, %s and %s", f, s, depth, visits, points, hull, w, u, v)
	}
	return []int64{first, second, third, fourth, fifth}
}

func TestErrorsOfOrbits(t *testing.T) {
	want := func(f impl.Family, s impl.Spot, depth, code int64) {
		t.Helper()
		if codes := orbitCodes(t, f, s, depth); !slices.Equal(codes, slices.Repeat([]int64{code}, 5)) {
			t.Errorf("%v, %v and %d: got the codes %v, want %d", f, s, depth, codes, code)
		}
	}
	for _, f := range invalidFamilies() {
		for _, depth := range []int64{0, 2, -1, 13} {
			want(f, near(1), depth, impl.ErrInvalid)
		}
	}
	for _, s := range invalidSpots() {
		for _, depth := range []int64{0, 12, -1, 13} {
			want(shifts(1, 2), s, depth, impl.ErrInvalid)
		}
		want(impl.Family{}, s, 0, impl.ErrInvalid)
	}
	for _, depth := range oddDepths() {
		want(shifts(1), near(1), depth, impl.ErrRange)
		want(shifts(1, 2, 3, 4), farSpot, depth, impl.ErrRange)
	}
	for n, depth := range map[int]int64{2: 7, 3: 5, 4: 4} {
		f := shifts(1, 2, 3, 4)
		for _, depth := range []int64{depth, depth + 1, impl.MaxDepth} {
			want(impl.Family{Maps: f.Maps[:n]}, near(0), depth, impl.ErrLimit)
		}
	}
}

// uniqueForTest tells points in order, each once; the code is ErrLimit if they are too many.
func uniqueForTest(points []complex64) ([]complex64, int64) {
	if len(points) > impl.MaxPoints {
		return nil, impl.ErrLimit
	}
	return eachOnce(inOrder(points)), impl.OK
}

func TestLimitPointsAndHulls(t *testing.T) {
	random := rand.New(rand.NewSource(411))
	limitCodes, hullCodes := map[int64]int{}, map[int64]int{}
	for range 300 {
		f := anyFamily(random, 4)
		s := randomSpot(random)
		depth := random.Int63n(mostDepth(f) + 2)
		if depth > impl.MaxDepth {
			depth = impl.MaxDepth
		}
		name := fmt.Sprint(f, s, depth)
		visits, code := orbitForTest(f, s, depth)
		want, wantCode := uniqueForTest(pointsForTest(visits, depth))
		points := pointsForTest(visits, 0)
		wantHull, hullCode := impl.HullOf(points)
		switch {
		case code != impl.OK:
			want, wantCode, wantHull, hullCode = nil, code, nil, code
		case len(points) == 0:
			wantHull, hullCode = nil, impl.ErrNotFound
		}
		got, code := impl.LimitPoints(f, s, depth)
		wantPoints(t, "LimitPoints "+name, got, code, want, wantCode)
		hull, code := impl.HullOfOrbit(f, s, depth)
		wantPoints(t, "HullOfOrbit "+name, hull, code, wantHull, hullCode)
		limitCodes[wantCode]++
		hullCodes[hullCode]++
	}
	if limitCodes[impl.OK] == 0 || limitCodes[impl.ErrLimit] == 0 || hullCodes[impl.OK] == 0 || hullCodes[impl.ErrLimit] == 0 || hullCodes[impl.ErrNotFound] == 0 {
		t.Errorf("codes of LimitPoints %v, of HullOfOrbit %v", limitCodes, hullCodes)
	}
}

// orbitPoints are the points that are made of an orbit.
type orbitPoints struct {
	f     impl.Family
	s     impl.Spot
	depth int64
	want  []complex64
	code  int64
}

func TestLimitPointsEdges(t *testing.T) {
	flip := familyOf(impl.FlipMap())
	cases := []orbitPoints{
		{shifts(1), near(0), 2, []complex64{-2, 2}, impl.OK}, {shifts(1), near(5), 0, []complex64{5}, impl.OK}, {shifts(1), farSpot, 0, nil, impl.OK}, {shifts(1), farSpot, 12, nil, impl.OK},
		{shifts(0), near(3), 12, []complex64{3}, impl.OK}, {shifts(1, 1), near(0), 2, []complex64{-2, 0, 2}, impl.OK}, // equal points
		{flip, near(2), 1, []complex64{0.5}, impl.OK}, {flip, near(0), 1, nil, impl.OK}, {flip, farSpot, 2, nil, impl.OK}, {shifts(1, 1i), near(0), 1, []complex64{-1, -1i, 1i, 1}, impl.OK},
	}
	for _, c := range cases {
		got, code := impl.LimitPoints(c.f, c.s, c.depth)
		wantEqualPoints(t, fmt.Sprint("LimitPoints ", c.f, c.s, c.depth), got, code, c.want, c.code)
	}
	// The empty word changes nothing, not even a sign; and points with 0 and with -0 are equal, but not the same.
	z := complex(minusZero, minusZero)
	points, code := impl.LimitPoints(shifts(1), near(z), 0)
	wantPoints(t, "LimitPoints with the depth 0", points, code, []complex64{z}, impl.OK)
	visits, code := impl.OrbitOf(shifts(1), near(z), 0)
	wantVisits(t, "OrbitOf with the depth 0", visits, code, []impl.Visit{{Spot: near(z)}}, impl.OK)
	points, code = impl.LimitPoints(familyOf(impl.Map{A: -1, B: complex(minusZero, 0), D: 1}), near(1i), 1)
	wantPoints(t, "LimitPoints with zeros", points, code, []complex64{complex(minusZero, -1), -1i}, impl.OK)
}

// MaxPoints points are not too many, though more spots are far; the same ones are counted as often as they come.
func TestMostPointsOfOrbits(t *testing.T) {
	flip, turned := impl.Map{B: 1, C: 1}, impl.Map{B: -1, C: 1}
	cases := []struct {
		name  string
		f     impl.Family
		s     impl.Spot
		depth int64
		limit int // how many points are those of the longest words
		all   int // how many there are at all
	}{
		{"256 limit points", familyOf(impl.Map{B: -1, C: -1, D: -1}, flip, impl.Map{A: -1, D: 1}, flip), farSpot, 3, 256, 0},
		{"256 limit points", familyOf(impl.Map{B: 1, C: 1, D: -1}, impl.Map{A: 1, D: -1}, impl.Map{A: 1, D: 1}, turned), near(0), 3, 256, 0},
		{"257 limit points", familyOf(impl.Map{A: 1, B: 1, C: -1}, impl.Map{A: 1, B: -1, C: 1, D: 1}), near(0), 5, 257, 0},
		{"257 limit points", familyOf(impl.Map{A: -1, B: 1, C: -1, D: -1}, impl.Map{B: -1, C: 1, D: 1}), near(0), 5, 257, 0},
		{"256 points", familyOf(impl.Map{A: -1, B: -1, D: 1}, impl.Map{A: -1, B: -1, C: 1}, impl.Map{A: -1, B: -1, D: 1}, impl.Map{A: 1, B: 1, D: -1}), farSpot, 3, 0, 256},
		{"256 points", familyOf(impl.Map{A: 1, B: 1, D: -1}, impl.Map{A: 1, D: 1}, impl.Map{A: 1, D: 1}, impl.Map{A: 1, B: 1, C: -1}), farSpot, 3, 0, 256},
		{"257 points", familyOf(impl.Map{B: 1, C: -1, D: -1}, flip, impl.Map{A: -1, B: -1, C: 1}, flip), near(0), 3, 0, 257},
		{"257 points", familyOf(turned, impl.Map{A: -1, B: 1, C: 1, D: 1}, impl.Map{A: -1, B: 1, C: 1, D: 1}, turned), near(0), 3, 0, 257},
		{"1 point at 324 words", familyOf(impl.Map{A: 1, D: 1}, impl.Map{A: 1, D: 1}), near(7), 5, 324, 485},
		{"1 point at 150 words", shifts(0, 0, 0), near(7), 3, 150, 187},
	}
	for _, c := range cases {
		visits, _ := orbitForTest(c.f, c.s, c.depth)
		limit, all := pointsForTest(visits, c.depth), pointsForTest(visits, 0)
		if c.limit > 0 && c.limit != len(limit) || c.all > 0 && c.all != len(all) {
			t.Fatalf("%s: there are %d and %d", c.name, len(limit), len(all))
		}
		want, wantCode := uniqueForTest(limit)
		points, code := impl.LimitPoints(c.f, c.s, c.depth)
		wantPoints(t, "LimitPoints: "+c.name, points, code, want, wantCode)
		want, wantCode = impl.HullOf(all)
		hull, code := impl.HullOfOrbit(c.f, c.s, c.depth)
		wantPoints(t, "HullOfOrbit: "+c.name, hull, code, want, wantCode)
	}
}

func TestHullOfOrbitEdges(t *testing.T) {
	flip := familyOf(impl.FlipMap())
	cases := []orbitPoints{
		{shifts(1), near(0), 2, []complex64{-2, 2}, impl.OK}, {shifts(1), near(4), 0, []complex64{4}, impl.OK}, {shifts(0), near(4), 12, []complex64{4}, impl.OK}, {shifts(1, 1i), near(0), 1, []complex64{-1, -1i, 1, 1i}, impl.OK}, {shifts(1, 1i), near(0), 3, []complex64{-3, -3i, 3, 3i}, impl.OK},
		{shifts(1), farSpot, 12, nil, impl.ErrNotFound}, {flip, farSpot, 0, nil, impl.ErrNotFound}, {flip, farSpot, 1, []complex64{0}, impl.OK}, {flip, near(0), 3, []complex64{0}, impl.OK}, {flip, near(2), 2, []complex64{0.5, 2}, impl.OK},
		{shifts(1, 2), near(0), 4, []complex64{-8, 8}, impl.OK}, {shifts(1, 2), near(0), 5, nil, impl.ErrLimit}, {shifts(1, 2), farSpot, 5, nil, impl.ErrNotFound}, {shifts(1, 2), farSpot, 7, nil, impl.ErrLimit},
	}
	for _, c := range cases {
		hull, code := impl.HullOfOrbit(c.f, c.s, c.depth)
		wantEqualPoints(t, fmt.Sprint("HullOfOrbit ", c.f, c.s, c.depth), hull, code, c.want, c.code)
	}
}
