package tests

import (
	"fmt"
	"math/rand"
	"slices"
	"strings"
	"testing"

	"loop.example/g01171/impl"
)

// imageOfWord puts the images of the letters of a word behind each other.
func imageOfWord(images []string, w string) string {
	row := ""
	for i := range len(w) {
		image := images[letterPlace(w[i])/2]
		if letterPlace(w[i])%2 != 0 {
			image = wordInverse(image)
		}
		row += image
	}
	return wordReduced(row)
}

func randomImages(random *rand.Rand, most int) []string {
	images := make([]string, 4)
	for i := range images {
		images[i] = randomReduced(random, 1+random.Intn(4), random.Intn(most+1))
	}
	return images
}

func someImages() [][]string {
	full := strings.Repeat("a", impl.MaxLetters)
	return [][]string{
		{"a", "b", "c", "d"}, {"", "", "", ""}, {"A", "B", "C", "D"}, {"b", "a", "d", "c"}, {"ab", "", "c", "d"}, {"ab", "Ba", "abA", "ddd"}, {full, "B", full, "A"}, {"D", "aab", strings.Repeat("dC", 20), full},
	}
}

// noImages are lists of another length, or of words that are not reduced, or of texts that are no words.
func noImages() [][]string {
	list := [][]string{nil, {}, {"a"}, {"a", "b", "c"}, {"a", "b", "c", "d", "a"}, {"", "", "", "", ""}, slices.Repeat([]string{"a"}, 1000), {"a", "b", "c", "d", "x"}}
	for i := range 4 {
		for _, odd := range append(invalidWords(), "aA", "Aa", "abBa", "dD", strings.Repeat("a", 38)+"bB", strings.Repeat("aA", 20)) {
			images := []string{"a", "b", "c", "d"}
			images[i] = odd
			list = append(list, images)
		}
	}
	return list
}

func TestValidImages(t *testing.T) {
	random := rand.New(rand.NewSource(330))
	list := someImages()
	for range 300 {
		list = append(list, randomImages(random, impl.MaxLetters))
	}
	for _, images := range list {
		wantBool(t, fmt.Sprint("ValidImages ", images), impl.ValidImages(images), 0, true, 0)
	}
	for _, images := range noImages() {
		wantBool(t, "ValidImages", impl.ValidImages(images), 0, false, 0)
	}
}

func TestApplyImages(t *testing.T) {
	random := rand.New(rand.NewSource(331))
	codes := map[int64]int{}
	for range 2000 {
		images := randomImages(random, random.Intn(8)+random.Intn(2)*30)
		w := anyWord(random)
		if random.Intn(2) == 0 {
			w = randomWord(random, 4, random.Intn(8))
		}
		want, wantCode := wordOrLimit(imageOfWord(images, w))
		got, code := impl.ApplyImages(images, w)
		wantWord(t, fmt.Sprint("ApplyImages ", images, " to ", w), got, code, want, wantCode)
		codes[code]++
	}
	if codes[impl.OK] == 0 || codes[impl.ErrLimit] == 0 || len(codes) != 2 {
		t.Errorf("codes: %v", codes)
	}
}

func TestApplyImagesEdges(t *testing.T) {
	full := strings.Repeat("a", impl.MaxLetters)
	cases := []struct {
		images  []string
		w, want string
		code    int64
	}{
		{[]string{"ab", "", "c", "d"}, "aBA", "", impl.OK}, {[]string{"ab", "c", "", "d"}, "aBA", "abCBA", impl.OK}, {[]string{"ab", "", "c", "d"}, "A", "BA", impl.OK}, {[]string{"", "", "", "abC"}, "D", "cBA", impl.OK}, {[]string{"b", "c", "d", "a"}, "abcdABCD", "bcdaBCDA", impl.OK},
		{[]string{"b", "B", "c", "d"}, "ab", "", impl.OK}, {[]string{"a", "b", "c", "d"}, "aAbBc", "c", impl.OK}, {[]string{full, "b", "c", "d"}, "", "", impl.OK}, {[]string{"", "", "", ""}, full, "", impl.OK},
		{[]string{full, "A", "c", "d"}, "a", full, impl.OK}, {[]string{full, "A", "c", "d"}, "aa", "", impl.ErrLimit}, {[]string{full, "A", "c", "d"}, "ab", full[:39], impl.OK}, {[]string{full, "A", "c", "d"}, "aB", "", impl.ErrLimit}, {[]string{full, "A", "c", "d"}, "aBbb", full[:39], impl.OK}, {[]string{full, "A", "c", "d"}, "aaA", full, impl.OK}, {[]string{full, "A", "c", "d"}, strings.Repeat("aA", 20), "", impl.OK}, {[]string{full, "A", "c", "d"}, full, "", impl.ErrLimit},
		{[]string{"ab", "b", "c", "d"}, full[:20], strings.Repeat("ab", 20), impl.OK}, {[]string{"ab", "b", "c", "d"}, full[:20] + "c", "", impl.ErrLimit}, {[]string{"ab", "b", "c", "d"}, full[:20] + "B", strings.Repeat("ab", 19) + "a", impl.OK},
	}
	for _, c := range cases {
		got, code := impl.ApplyImages(c.images, c.w)
		wantWord(t, fmt.Sprint("ApplyImages ", c.images, " to ", c.w), got, code, c.want, c.code)
	}
	for _, images := range noImages() {
		for _, w := range []string{"", "ab", full, "x"} {
			got, code := impl.ApplyImages(images, w)
			wantWord(t, "ApplyImages of no images", got, code, "", impl.ErrInvalid)
		}
	}
	for _, w := range invalidWords() {
		got, code := impl.ApplyImages([]string{full, "b", "c", "d"}, w)
		wantWord(t, "ApplyImages to no word", got, code, "", impl.ErrInvalid)
	}
}

func TestComposeImages(t *testing.T) {
	random := rand.New(rand.NewSource(332))
	codes := map[int64]int{}
	for range 1000 {
		f, g := randomImages(random, 1+random.Intn(12)), randomImages(random, 1+random.Intn(12))
		want, wantCode := make([]string, 4), int64(impl.OK)
		for i := range want {
			image, code := wordOrLimit(imageOfWord(g, f[i]))
			want[i], wantCode = image, max(wantCode, code)
		}
		if wantCode != impl.OK {
			want = nil
		}
		got, code := impl.ComposeImages(f, g)
		wantWords(t, fmt.Sprint("ComposeImages ", f, " and ", g), got, code, want, wantCode)
		codes[code]++
	}
	if codes[impl.OK] == 0 || codes[impl.ErrLimit] == 0 || len(codes) != 2 {
		t.Errorf("codes: %v", codes)
	}
}

func TestComposeImagesEdges(t *testing.T) {
	full := strings.Repeat("a", impl.MaxLetters)
	one := []string{"a", "b", "c", "d"}
	swap := []string{"b", "a", "c", "d"}
	double := []string{"aa", "b", "c", "d"}
	cases := []struct {
		f, g, want []string
		code       int64
	}{
		{one, one, one, impl.OK}, {[]string{"ab", "", "c", "d"}, []string{"ab", "", "c", "d"}, []string{"ab", "", "c", "d"}, impl.OK}, {double, swap, []string{"bb", "a", "c", "d"}, impl.OK}, {swap, double, []string{"b", "aa", "c", "d"}, impl.OK}, // the order matters
		{[]string{full, "b", "c", "d"}, one, []string{full, "b", "c", "d"}, impl.OK}, {[]string{full, "b", "c", "d"}, double, nil, impl.ErrLimit}, {[]string{"b", "c", "d", full}, double, nil, impl.ErrLimit}, {[]string{full, full, full, full}, []string{"", "b", "c", "d"}, []string{"", "", "", ""}, impl.OK},
		{[]string{"A", "bA", "Bc", ""}, []string{"ab", "aB", "d", "c"}, []string{"BA", "aBBA", "bAd", ""}, impl.OK},
	}
	for _, c := range cases {
		got, code := impl.ComposeImages(c.f, c.g)
		wantWords(t, fmt.Sprint("ComposeImages ", c.f, " and ", c.g), got, code, c.want, c.code)
	}
	for _, images := range noImages() {
		for _, other := range [][]string{one, {full, full, full, full}, nil} {
			got, code := impl.ComposeImages(images, other)
			wantWords(t, "ComposeImages of no images first", got, code, nil, impl.ErrInvalid)
			got, code = impl.ComposeImages(other, images)
			wantWords(t, "ComposeImages of no images second", got, code, nil, impl.ErrInvalid)
		}
	}
	// ErrInvalid is ahead of ErrLimit, also if the first words already are too long.
	got, code := impl.ComposeImages([]string{full, "b", "c", "dD"}, double)
	wantWords(t, "ComposeImages", got, code, nil, impl.ErrInvalid)
}

// Images of joined words are joined, and composed images are applied one after the other.
func TestImagesAreJoinedAndComposed(t *testing.T) {
	random := rand.New(rand.NewSource(333))
	for range 1000 {
		f, g := randomImages(random, 3), randomImages(random, 3)
		u, w := randomWord(random, 4, random.Intn(5)), randomWord(random, 4, random.Intn(5))
		both, _ := impl.JoinReduced(u, w)
		image, code := impl.ApplyImages(f, both)
		first, _ := impl.ApplyImages(f, u)
		second, _ := impl.ApplyImages(f, w)
		joined, joinedCode := impl.JoinReduced(first, second)
		wantWord(t, fmt.Sprint("images ", f, " of ", u, " and ", w), joined, joinedCode, image, code)
		inverse, _ := impl.InverseWord(u)
		image, code = impl.ApplyImages(f, inverse)
		wantWord(t, fmt.Sprint("image ", f, " of ", inverse), image, code, wordInverse(first), impl.OK)
		composed, code := impl.ComposeImages(f, g)
		wantNumber(t, "code of ComposeImages", code, impl.OK)
		wantBool(t, "ValidImages of composed ones", impl.ValidImages(composed), 0, true, 0)
		at, code := impl.ApplyImages(composed, u)
		there, thereCode := impl.ApplyImages(g, first)
		wantWord(t, fmt.Sprint("images ", f, " and ", g, " of ", u), at, code, there, thereCode)
	}
}

// mapOfWordForTest composes the maps of letters without the program.
func mapOfWordForTest(maps []impl.Map, w string) (impl.Map, int64) {
	found, code := impl.Map{A: 1, D: 1}, int64(impl.OK)
	for i := 0; i < len(w) && code == impl.OK; i++ {
		found, code = composeForTest(found, mapOfLetterForTest(maps, w[i]))
	}
	return found, code
}

func mapOfLetterForTest(maps []impl.Map, letter byte) impl.Map {
	m := maps[letterPlace(letter)/2]
	if letterPlace(letter)%2 != 0 {
		return inverseForTest(m)
	}
	return m
}

func spotOfWordForTest(maps []impl.Map, w string, s impl.Spot) impl.Spot {
	for i := len(w) - 1; i >= 0; i-- {
		s = applyForTest(mapOfLetterForTest(maps, w[i]), s)
	}
	return s
}

func TestMapOfWordAndSpotOfWord(t *testing.T) {
	random := rand.New(rand.NewSource(334))
	edges := edgeMaps()
	codes := map[int64]int{}
	for range 1500 {
		maps := make([]impl.Map, 1+random.Intn(4))
		for i := range maps {
			maps[i] = [3]impl.Map{edges[random.Intn(len(edges))], randomMap(random), wholeMap(random, 3)}[random.Intn(3)]
		}
		w := randomWord(random, len(maps), random.Intn(9)+random.Intn(2)*32)
		got, code := impl.MapOfWord(maps, w)
		want, wantCode := mapOfWordForTest(maps, w)
		wantMap(t, fmt.Sprint("MapOfWord ", w, " of ", maps), got, code, want, wantCode)
		codes[code]++
		for _, s := range append(randomSpots(random, 3), farSpot) {
			at, code := impl.SpotOfWord(maps, w, s)
			wantSpot(t, fmt.Sprint("SpotOfWord ", w, " of ", maps, " at ", s), at, code, spotOfWordForTest(maps, w, s), impl.OK)
		}
	}
	if codes[impl.OK] == 0 || codes[impl.ErrLimit] == 0 || len(codes) != 2 {
		t.Errorf("codes: %v", codes)
	}
}

func TestMapOfWordEdges(t *testing.T) {
	one, shift, times := impl.Map{A: 1, D: 1}, impl.Map{A: 1, B: 1, D: 1}, impl.Map{A: 2, D: 1}
	great, untidy := impl.Map{A: 0x1p100, D: 1}, impl.Map{A: 0x1p100, D: 0x1p-100}
	cases := []struct {
		maps []impl.Map
		w    string
		want impl.Map
		code int64
	}{
		{nil, "", one, impl.OK}, {[]impl.Map{shift}, "", one, impl.OK}, {[]impl.Map{untidy}, "", one, impl.OK}, {[]impl.Map{times}, "a", impl.Map{A: 1, D: 0.5}, impl.OK},
		{[]impl.Map{shift, times}, "ab", impl.Map{A: 1, B: 0.5, D: 0.5}, impl.OK}, {[]impl.Map{shift, times}, "ba", impl.Map{A: 1, B: 1, D: 0.5}, impl.OK}, {[]impl.Map{times, shift}, "ba", impl.Map{A: 1, B: 0.5, D: 0.5}, impl.OK},
		{[]impl.Map{shift, times, impl.FlipMap(), {A: 1i, D: 1}}, "d", impl.Map{A: 1i, D: 1}, impl.OK}, {[]impl.Map{shift, times, impl.FlipMap(), {A: 1i, D: 1}}, "D", impl.Map{A: 1, D: 1i}, impl.OK}, {[]impl.Map{shift, times, impl.FlipMap()}, "c", impl.FlipMap(), impl.OK},
		{[]impl.Map{shift}, strings.Repeat("a", 40), impl.Map{A: 0.03125, B: 1.25, D: 0.03125}, impl.OK}, {[]impl.Map{shift}, "aA", one, impl.OK},
		{[]impl.Map{great}, "a", impl.Map{A: 1, D: 0x1p-100}, impl.OK}, {[]impl.Map{great}, "aa", impl.Map{}, impl.ErrLimit}, {[]impl.Map{great}, "AA", impl.Map{}, impl.ErrLimit}, {[]impl.Map{great}, "aAa", impl.Map{A: 1, D: 0x1p-100}, impl.OK}, {[]impl.Map{great}, "aaAA", impl.Map{}, impl.ErrLimit}, {[]impl.Map{great}, "aaA", impl.Map{}, impl.ErrLimit}, // words are not reduced
		{[]impl.Map{shift, untidy}, "b", impl.Map{}, impl.ErrLimit}, {[]impl.Map{shift, untidy}, "aB", impl.Map{}, impl.ErrLimit}, {[]impl.Map{shift, untidy}, "aA", one, impl.OK},
		{nil, "a", impl.Map{}, impl.ErrRange}, {nil, "D", impl.Map{}, impl.ErrRange}, {[]impl.Map{shift}, "b", impl.Map{}, impl.ErrRange}, {[]impl.Map{shift}, "aB", impl.Map{}, impl.ErrRange}, {[]impl.Map{shift}, "bB", impl.Map{}, impl.ErrRange}, {[]impl.Map{shift, shift, shift}, "abcd", impl.Map{}, impl.ErrRange},
		{[]impl.Map{great}, "aab", impl.Map{}, impl.ErrRange}, {slices.Repeat([]impl.Map{great}, 5), "aa", impl.Map{}, impl.ErrRange}, // ahead of ErrLimit
		{slices.Repeat([]impl.Map{shift}, 4), "a", shift, impl.OK}, {slices.Repeat([]impl.Map{shift}, 5), "a", impl.Map{}, impl.ErrRange}, {slices.Repeat([]impl.Map{shift}, 5), "", impl.Map{}, impl.ErrRange}, {slices.Repeat([]impl.Map{shift}, 260), "", impl.Map{}, impl.ErrRange},
	}
	for _, c := range cases {
		got, code := impl.MapOfWord(c.maps, c.w)
		if got != c.want || code != c.code {
			t.Errorf("MapOfWord %s of %v: got %s and %s, want %s and %s", c.w, c.maps, mapBits(got), impl.CodeName(code), mapBits(c.want), impl.CodeName(c.code))
		}
		wantCode := c.code
		if wantCode == impl.ErrLimit {
			wantCode = impl.OK
		}
		_, code = impl.SpotOfWord(c.maps, c.w, near(1))
		wantNumber(t, "code of SpotOfWord "+c.w, code, wantCode)
	}
}

func TestSpotOfWordEdges(t *testing.T) {
	shift, times, flip := impl.Map{A: 1, B: 1, D: 1}, impl.Map{A: 2, D: 1}, impl.FlipMap()
	great := impl.Map{A: 0x1p100, D: 1}
	cases := []struct {
		maps []impl.Map
		w    string
		s    impl.Spot
		want impl.Spot
		code int64
	}{
		{nil, "", near(3), near(3), impl.OK}, {nil, "", farSpot, farSpot, impl.OK}, {nil, "", near(complex(minusZero, minusZero)), near(complex(minusZero, minusZero)), impl.OK},
		{[]impl.Map{shift, times}, "ab", near(3), near(7), impl.OK}, {[]impl.Map{shift, times}, "ba", near(3), near(8), impl.OK}, {[]impl.Map{shift, times}, "AB", near(8), near(3), impl.OK}, {[]impl.Map{shift, times}, "BA", near(7), near(3), impl.OK},
		{[]impl.Map{shift}, "aaa", farSpot, farSpot, impl.OK}, {[]impl.Map{flip, shift}, "a", farSpot, near(0), impl.OK}, {[]impl.Map{flip, shift}, "ab", near(-1), farSpot, impl.OK}, {[]impl.Map{flip, shift}, "bab", near(-1), farSpot, impl.OK}, {[]impl.Map{flip, shift}, "abab", near(-1), near(0), impl.OK},
		{[]impl.Map{shift, flip}, "abb", near(0), near(1), impl.OK}, {[]impl.Map{great}, "aa", near(1), farSpot, impl.OK}, {[]impl.Map{great}, "Aaa", near(1), farSpot, impl.OK}, {[]impl.Map{great}, "aAa", near(1), near(0x1p100), impl.OK}, // words are not reduced
		{[]impl.Map{shift}, "b", near(1), impl.Spot{}, impl.ErrRange}, {nil, "a", farSpot, impl.Spot{}, impl.ErrRange}, {slices.Repeat([]impl.Map{shift}, 5), "", near(1), impl.Spot{}, impl.ErrRange}, {slices.Repeat([]impl.Map{shift}, 4), "abcd", near(1), near(5), impl.OK},
	}
	for _, c := range cases {
		got, code := impl.SpotOfWord(c.maps, c.w, c.s)
		if got != c.want || code != c.code {
			t.Errorf("SpotOfWord %s of %v at %v: got %s and %s, want %s and %s", c.w, c.maps, c.s, spotText(got), impl.CodeName(code), spotText(c.want), impl.CodeName(c.code))
		}
	}
}

func TestMapsAndSpotsOfWordsThatAreNotValid(t *testing.T) {
	shift := impl.Map{A: 1, B: 1, D: 1}
	check := func(maps []impl.Map, w string, s impl.Spot, isMapToo bool) {
		at, code := impl.SpotOfWord(maps, w, s)
		wantSpot(t, "SpotOfWord "+w, at, code, impl.Spot{}, impl.ErrInvalid)
		if isMapToo {
			m, code := impl.MapOfWord(maps, w)
			wantMap(t, "MapOfWord "+w, m, code, impl.Map{}, impl.ErrInvalid)
		}
	}
	for _, m := range invalidMaps() {
		for _, maps := range [][]impl.Map{{m}, {m, shift}, {shift, m}, {shift, shift, shift, m}, {m, m, m, m, m}, {shift, shift, shift, shift, m}} {
			for _, w := range []string{"", "a", "dd", "x"} {
				check(maps, w, near(1), true)
			}
		}
	}
	for _, w := range invalidWords() {
		for _, maps := range [][]impl.Map{nil, {shift}, {{}}, slices.Repeat([]impl.Map{shift}, 5)} {
			check(maps, w, farSpot, true)
		}
	}
	for _, s := range invalidSpots() {
		for _, maps := range [][]impl.Map{nil, {shift}, {{}}, slices.Repeat([]impl.Map{shift}, 5)} {
			for _, w := range []string{"", "a", "b", "x"} {
				check(maps, w, s, false)
			}
		}
	}
}

// exactMap moves, turns, doubles or halves, so that points of small whole numbers are taken exactly.
func exactMap(random *rand.Rand) impl.Map {
	shift, _ := impl.ShiftMap(complex(float32(random.Intn(9)-4), float32(random.Intn(9)-4)))
	times, _ := impl.TimesMap([]complex64{1, -1, 1i, -2, 0.5, -0.5i}[random.Intn(6)])
	return []impl.Map{shift, times}[random.Intn(2)]
}

// Maps of words are composed as the words are joined, and take spots where the words take them.
func TestMapsOfWordsAreComposed(t *testing.T) {
	random := rand.New(rand.NewSource(335))
	for range 2000 {
		maps := []impl.Map{exactMap(random), exactMap(random), exactMap(random), exactMap(random)}
		u, w := randomWord(random, 4, random.Intn(5)), randomWord(random, 4, random.Intn(5))
		first, _ := impl.MapOfWord(maps, u)
		second, _ := impl.MapOfWord(maps, w)
		composed, _ := impl.ComposeMaps(first, second)
		both, code := impl.MapOfWord(maps, u+w)
		if both != composed || code != impl.OK {
			t.Errorf("MapOfWord %s and %s of %v: got %v, composed %v", u, w, maps, both, composed)
		}
		s := near(complex(float32(random.Intn(9)-4), float32(random.Intn(9)-4)))
		between, _ := impl.SpotOfWord(maps, w, s)
		there, _ := impl.SpotOfWord(maps, u, between)
		at, code := impl.SpotOfWord(maps, u+w, s)
		if at != there || code != impl.OK {
			t.Errorf("SpotOfWord %s and %s of %v: got %v, one by one %v", u, w, maps, at, there)
		}
		if applied, _ := impl.ApplyMap(both, s); applied != at {
			t.Errorf("SpotOfWord %s%s of %v: got %v, applied %v", u, w, maps, at, applied)
		}
		reduced, _ := impl.ReduceWord(u + w)
		alike, _ := impl.MapOfWord(maps, reduced)
		is, code := impl.AreAlikeMaps(alike, both, 0)
		wantBool(t, "maps of a word and of its reduced word", is, code, true, impl.OK)
		inverse, _ := impl.InverseWord(u + w)
		back, _ := impl.SpotOfWord(maps, inverse, at)
		if back != s {
			t.Errorf("SpotOfWord %s of %v there and back from %v: got %v", inverse, maps, s, back)
		}
	}
}
