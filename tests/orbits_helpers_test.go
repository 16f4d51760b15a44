package tests

import (
	"fmt"
	"math/rand"
	"slices"
	"testing"

	"loop.example/g01171/impl"
)

func familyOf(maps ...impl.Map) impl.Family { return impl.Family{Maps: maps} }

// shifts is a family of maps that add these numbers.
func shifts(steps ...complex64) impl.Family {
	var f impl.Family
	for _, by := range steps {
		f.Maps = append(f.Maps, impl.Map{A: 1, B: by, D: 1})
	}
	return f
}

func sameFamilies(f, g impl.Family) bool { return slices.EqualFunc(f.Maps, g.Maps, sameMaps) }

func sameVisits(v, w impl.Visit) bool { return v.Word == w.Word && sameSpots(v.Spot, w.Spot) }

func visitsText(list []impl.Visit) string {
	text := fmt.Sprint(len(list), " [")
	for _, v := range list {
		text += v.Word + ": " + spotText(v.Spot) + "; "
	}
	return text + "]"
}

func wantVisits(t *testing.T, name string, got []impl.Visit, code int64, want []impl.Visit, wantCode int64) {
	t.Helper()
	if !slices.EqualFunc(got, want, sameVisits) || code != wantCode {
		t.Errorf("%s: got %s and %s, want %s and %s", name, visitsText(got), impl.CodeName(code), visitsText(want), impl.CodeName(wantCode))
	}
}

// wantEqualVisits checks visits whose zeros may have other signs: these are held against math/big elsewhere.
func wantEqualVisits(t *testing.T, name string, got []impl.Visit, code int64, want []impl.Visit, wantCode int64) {
	t.Helper()
	if !slices.Equal(got, want) || code != wantCode {
		t.Errorf("%s: got %s and %s, want %s and %s", name, visitsText(got), impl.CodeName(code), visitsText(want), impl.CodeName(wantCode))
	}
}

// wantEqualPoints does the same for points.
func wantEqualPoints(t *testing.T, name string, got []complex64, code int64, want []complex64, wantCode int64) {
	t.Helper()
	if !slices.Equal(got, want) || code != wantCode {
		t.Errorf("%s: got %s and %s, want %s and %s", name, listText(got), impl.CodeName(code), listText(want), impl.CodeName(wantCode))
	}
}

// visitsOf lists words and their points in turn.
func visitsOf(list ...any) []impl.Visit {
	var visits []impl.Visit
	for i := 0; i < len(list); i += 2 {
		v := impl.Visit{Word: list[i].(string), Spot: farSpot}
		if x, isNear := list[i+1].(complex128); isNear {
			v.Spot = near(complex64(x))
		}
		visits = append(visits, v)
	}
	return visits
}

// invalidFamilies have no map, or too many, or one that is not valid.
func invalidFamilies() []impl.Family {
	shift := shifts(1).Maps[0]
	list := []impl.Family{{}, {Maps: []impl.Map{}}, shifts(1, 2, 3, 4, 5), {Maps: slices.Repeat([]impl.Map{shift}, 1000)}}
	for _, m := range invalidMaps() {
		list = append(list, familyOf(m), familyOf(m, shift), familyOf(shift, m), familyOf(shift, shift, shift, m), familyOf(shift, shift, shift, shift, m))
	}
	return list
}

// anyFamily has one map to so many; the maps have small whole parts, or those of moderate or of any size.
func anyFamily(random *rand.Rand, most int) impl.Family {
	var f impl.Family
	for range 1 + random.Intn(most) {
		switch random.Intn(4) {
		case 0:
			f.Maps = append(f.Maps, wholeMap(random, 2))
		case 1:
			f.Maps = append(f.Maps, exactMap(random))
		case 2:
			f.Maps = append(f.Maps, randomMap(random))
		default:
			f.Maps = append(f.Maps, moderateMap(random))
		}
	}
	return f
}

// moderateMap has parts of ordinary size, with many bits.
func moderateMap(random *rand.Rand) impl.Map {
	for {
		var reals [8]float32
		for i := range reals {
			reals[i] = float32(random.NormFloat64())
		}
		if m := mapOfReals(reals); isValidForTest(m) {
			return m
		}
	}
}

// mostDepth tells with which depth there are the most words that may be visited.
func mostDepth(f impl.Family) int64 { return []int64{0, 12, 6, 4, 3}[len(f.Maps)] }

// listedWords keeps the lists of words that have been made, by generators and depth.
var listedWords = map[[2]int][]string{}

// wordsUpTo tells all reduced words with at most so many letters, in order; the code is ErrLimit if they are too many.
func wordsUpTo(f impl.Family, depth int64) ([]string, int64) {
	if depth > mostDepth(f) {
		return nil, impl.ErrLimit
	}
	key := [2]int{len(f.Maps), int(depth)}
	if _, isListed := listedWords[key]; !isListed {
		var list []string
		for length := range key[1] + 1 {
			list = append(list, reducedWords(key[0], length)...)
		}
		listedWords[key] = list
	}
	return listedWords[key], impl.OK
}

// orbitForTest takes a spot by each word, letter by letter, without the program.
func orbitForTest(f impl.Family, s impl.Spot, depth int64) ([]impl.Visit, int64) {
	list, code := wordsUpTo(f, depth)
	spots := map[string]impl.Spot{"": s}
	var visits []impl.Visit
	for _, w := range list {
		if w != "" {
			spots[w] = applyForTest(mapOfLetterForTest(f.Maps, w[0]), spots[w[1:]])
		}
		visits = append(visits, impl.Visit{Word: w, Spot: spots[w]})
	}
	return visits, code
}

// pointsForTest tells the points of visits with so many letters at least that are not far.
func pointsForTest(visits []impl.Visit, least int64) []complex64 {
	var points []complex64
	for _, v := range visits {
		if int64(len(v.Word)) >= least && !v.Spot.Far {
			points = append(points, v.Spot.At)
		}
	}
	return points
}

// oddDepths are none.
func oddDepths() []int64 {
	return []int64{-1, impl.MaxDepth + 1, -1 << 63, 1<<63 - 1, 1 << 32, -12, 1500}
}
