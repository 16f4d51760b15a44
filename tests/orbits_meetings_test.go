package tests

import (
	"fmt"
	"math/rand"
	"testing"

	"loop.example/g01171/impl"
)

func wantPair(t *testing.T, name, u, v string, code int64, wantU, wantV string, wantCode int64) {
	t.Helper()
	if u != wantU || v != wantV || code != wantCode {
		t.Errorf("%s: got %q, %q and %s, want %q, %q and %s", name, u, v, impl.CodeName(code), wantU, wantV, impl.CodeName(wantCode))
	}
}

// wordToForTest tells the first visit of a list with an equal spot.
func wordToForTest(visits []impl.Visit, s impl.Spot) (string, int64) {
	for _, v := range visits {
		if isEqualSpot(v.Spot, s) {
			return v.Word, impl.OK
		}
	}
	return "", impl.ErrNotFound
}

// meetingForTest tells the first visit that has an earlier one with an equal spot, behind the first such one.
func meetingForTest(visits []impl.Visit) (string, string, int64) {
	for i, later := range visits {
		for _, earlier := range visits[:i] {
			if isEqualSpot(earlier.Spot, later.Spot) {
				return earlier.Word, later.Word, impl.OK
			}
		}
	}
	return "", "", impl.ErrNotFound
}

func TestWordToAndFirstMeeting(t *testing.T) {
	random := rand.New(rand.NewSource(430))
	wordCodes, pairCodes := map[int64]int{}, map[int64]int{}
	for range 200 {
		f := anyFamily(random, 4)
		depth := random.Int63n(mostDepth(f) + 1)
		s := randomSpot(random)
		visits, _ := orbitForTest(f, s, depth)
		name := fmt.Sprint(f, s, depth)
		u, v, code := impl.FirstMeeting(f, s, depth)
		wantU, wantV, wantCode := meetingForTest(visits)
		wantPair(t, "FirstMeeting "+name, u, v, code, wantU, wantV, wantCode)
		pairCodes[code]++
		targets := []impl.Spot{s, farSpot, near(0), randomSpot(random)}
		for range 5 {
			targets = append(targets, visits[random.Intn(len(visits))].Spot)
		}
		for _, to := range targets {
			w, code := impl.WordTo(f, s, to, depth)
			want, wantCode := wordToForTest(visits, to)
			wantWord(t, fmt.Sprint("WordTo ", to, " of ", name), w, code, want, wantCode)
			wordCodes[code]++
		}
	}
	for _, codes := range []map[int64]int{wordCodes, pairCodes} {
		if codes[impl.OK] == 0 || codes[impl.ErrNotFound] == 0 || len(codes) != 2 {
			t.Errorf("codes %v", codes)
		}
	}
}

func TestWordToEdges(t *testing.T) {
	z := complex(minusZero, minusZero)
	flip := familyOf(impl.FlipMap())
	cases := []struct {
		f     impl.Family
		s, to impl.Spot
		depth int64
		want  string
		code  int64
	}{
		{shifts(1), near(0), near(0), 0, "", impl.OK}, {shifts(1), near(0), near(0), 12, "", impl.OK}, {shifts(1), farSpot, farSpot, 12, "", impl.OK}, {shifts(0), near(3), near(3), 5, "", impl.OK}, // the spot itself
		{shifts(1), near(0), near(2), 2, "aa", impl.OK}, {shifts(1), near(0), near(-2), 2, "AA", impl.OK}, {shifts(1), near(0), near(12), 12, "aaaaaaaaaaaa", impl.OK}, {shifts(1), near(0), near(-12), 12, "AAAAAAAAAAAA", impl.OK},
		{shifts(1), near(0), near(2), 1, "", impl.ErrNotFound}, {shifts(1), near(0), near(13), 12, "", impl.ErrNotFound}, {shifts(1), near(0), near(1), 0, "", impl.ErrNotFound}, {shifts(1), near(0), farSpot, 12, "", impl.ErrNotFound}, {shifts(1), farSpot, near(0), 12, "", impl.ErrNotFound},
		{flip, near(0), farSpot, 1, "a", impl.OK}, {flip, farSpot, near(0), 1, "a", impl.OK}, {flip, near(2), near(0.5), 3, "a", impl.OK}, // a and A reach it
		{shifts(1, 2), near(0), near(2), 3, "b", impl.OK}, {shifts(1, 1), near(0), near(1), 2, "a", impl.OK}, {shifts(-1, 1), near(0), near(1), 2, "A", impl.OK}, {shifts(3, 1), near(0), near(2), 3, "aB", impl.OK}, {shifts(1, 3), near(0), near(2), 3, "aa", impl.OK}, {shifts(1, 3), near(0), near(-2), 3, "aB", impl.OK}, {shifts(-1, -3), near(0), near(2), 3, "aB", impl.OK}, {shifts(2, 3, 5), near(0), near(5), 2, "c", impl.OK}, {shifts(2, 3, 7), near(0), near(5), 2, "ab", impl.OK}, // the first one of several
		{shifts(1), near(z), near(0), 3, "", impl.OK}, {shifts(1), near(0), near(z), 3, "", impl.OK}, {shifts(1), near(1), near(z), 3, "A", impl.OK}, {shifts(1), near(complex(1, minusZero)), near(complex(2, 0)), 3, "a", impl.OK}, {flip, farSpot, near(z), 1, "a", impl.OK}, // zeros of both signs
		{shifts(0.1), near(0), near(0.1), 1, "a", impl.OK}, {shifts(0.1), near(0), near(complex(ofBits(bitsOf(0.1)+1), 0)), 12, "", impl.ErrNotFound}, {shifts(complex(least, 0)), near(0), near(complex(3*least, 0)), 3, "aaa", impl.OK},
		{shifts(1, 2), near(0), near(0), 7, "", impl.ErrLimit}, {shifts(1, 2), near(0), near(1), 12, "", impl.ErrLimit}, {shifts(1, 2), near(0), near(1), 6, "a", impl.OK},
	}
	for _, c := range cases {
		got, code := impl.WordTo(c.f, c.s, c.to, c.depth)
		wantWord(t, fmt.Sprint("WordTo ", c.f, c.s, c.to, c.depth), got, code, c.want, c.code)
	}
	for _, to := range invalidSpots() {
		for _, f := range []impl.Family{shifts(1), {}} {
			for _, depth := range []int64{0, 12, -1, 13} {
				got, code := impl.WordTo(f, near(0), to, depth)
				wantWord(t, "WordTo no spot", got, code, "", impl.ErrInvalid)
			}
		}
	}
	got, code := impl.WordTo(impl.Family{}, near(0), near(0), 0)
	wantWord(t, "WordTo of no family", got, code, "", impl.ErrInvalid)
}

func TestFirstMeetingEdges(t *testing.T) {
	z := complex(minusZero, minusZero)
	flip := familyOf(impl.FlipMap())
	cases := []struct {
		f     impl.Family
		s     impl.Spot
		depth int64
		u, v  string
		code  int64
	}{
		{flip, near(1), 1, "", "a", impl.OK}, {flip, near(2), 1, "a", "A", impl.OK}, {flip, near(2), 0, "", "", impl.ErrNotFound}, {flip, near(0), 2, "a", "A", impl.OK}, {flip, farSpot, 2, "a", "A", impl.OK},
		{shifts(0), near(7), 3, "", "a", impl.OK}, {shifts(1), farSpot, 3, "", "a", impl.OK}, {shifts(1), near(0), 12, "", "", impl.ErrNotFound}, {shifts(1), farSpot, 0, "", "", impl.ErrNotFound},
		{shifts(1, 1), near(0), 1, "a", "b", impl.OK}, {shifts(1, -1), near(0), 1, "A", "b", impl.OK}, {shifts(1, 2), near(0), 2, "b", "aa", impl.OK}, {shifts(2, 1), near(0), 2, "b", "aB", impl.OK}, {shifts(1, 10), near(0), 2, "ab", "ba", impl.OK}, {shifts(1, 10), near(0), 1, "", "", impl.ErrNotFound}, // ab is ahead of ba
		{shifts(1, 10, 11), near(0), 2, "c", "ab", impl.OK}, {shifts(5, 1, 3, 2), near(0), 2, "d", "aC", impl.OK}, {shifts(1, 2, 1, 2), near(0), 3, "a", "c", impl.OK}, {shifts(3, 3, 3), near(0), 3, "a", "b", impl.OK}, {shifts(0, 5, 5), near(0), 3, "", "a", impl.OK},
		{familyOf(impl.Map{A: -1, D: 1}), near(z), 1, "", "a", impl.OK}, {familyOf(impl.Map{A: -1, D: 1}), near(0), 1, "", "a", impl.OK}, {familyOf(impl.Map{A: -1, D: 1}), near(3), 1, "a", "A", impl.OK}, // zeros of both signs
		{familyOf(impl.Map{A: 1i, D: 1}), near(1), 12, "aa", "AA", impl.OK}, {familyOf(impl.Map{A: -1, B: complex(minusZero, 0), D: 1}), near(1i), 1, "a", "A", impl.OK},
		{shifts(1, 2), near(0), 7, "", "", impl.ErrLimit}, {shifts(0, 0), near(0), 7, "", "", impl.ErrLimit}, {shifts(0, 0), near(0), 6, "", "a", impl.OK},
	}
	for _, c := range cases {
		u, v, code := impl.FirstMeeting(c.f, c.s, c.depth)
		wantPair(t, fmt.Sprint("FirstMeeting ", c.f, c.s, c.depth), u, v, code, c.u, c.v, c.code)
	}
}

// identitiesForTest lists the words whose maps are alike the identity.
func identitiesForTest(f impl.Family, bound float32, length int64) ([]string, int64) {
	list, code := wordsUpTo(f, length)
	maps := map[string]impl.Map{"": {A: 1, D: 1}}
	var found []string
	for _, w := range list {
		if w == "" {
			continue
		}
		last := len(w) - 1
		m, mapCode := composeForTest(maps[w[:last]], mapOfLetterForTest(f.Maps, w[last]))
		if mapCode != impl.OK {
			return nil, mapCode
		}
		maps[w] = m
		most, alikeCode := alikeForTest(m, impl.Map{A: 1, D: 1})
		if alikeCode != impl.OK {
			return nil, alikeCode
		}
		if most <= float64(bound) {
			found = append(found, w)
		}
	}
	return found, code
}

func TestNearIdentities(t *testing.T) {
	random := rand.New(rand.NewSource(431))
	codes, some := map[int64]int{}, 0
	for range 200 {
		f := anyFamily(random, 4)
		length := random.Int63n(max(mostDepth(f)-1, 3) + 1)
		bound := []float32{0, minusZero, least, 1e-6, 0.1, 0.5, 1, 2, 3, infinite}[random.Intn(10)]
		got, code := impl.NearIdentities(f, bound, length)
		want, wantCode := identitiesForTest(f, bound, length)
		wantWords(t, fmt.Sprint("NearIdentities ", f, bound, length), got, code, want, wantCode)
		codes[code]++
		some += len(got)
	}
	if codes[impl.OK] == 0 || codes[impl.ErrLimit] == 0 || some == 0 {
		t.Errorf("codes %v, %d words", codes, some)
	}
}

func TestNearIdentitiesEdges(t *testing.T) {
	flip, turn := familyOf(impl.FlipMap()), familyOf(impl.Map{A: 1i, D: 1})
	great, untidy := impl.Map{A: 0x1p100, D: 1}, impl.Map{A: 0x1p100, D: 0x1p-100}
	all := []string{"a", "A", "b", "B", "aa", "ab", "aB", "AA", "Ab", "AB", "ba", "bA", "bb", "Ba", "BA", "BB"}
	cases := []struct {
		f      impl.Family
		bound  float32
		length int64
		want   []string
		code   int64
	}{
		{flip, 0, 2, []string{"aa", "AA"}, impl.OK}, {flip, 0, 5, []string{"aa", "AA", "aaaa", "AAAA"}, impl.OK}, {flip, minusZero, 2, []string{"aa", "AA"}, impl.OK}, {flip, 0, 0, nil, impl.OK}, {flip, infinite, 0, nil, impl.OK}, {flip, 0, 1, nil, impl.OK},
		{turn, 0, 12, []string{"aaaa", "AAAA", "aaaaaaaa", "AAAAAAAA", "aaaaaaaaaaaa", "AAAAAAAAAAAA"}, impl.OK}, {shifts(0), 0, 2, []string{"a", "A", "aa", "AA"}, impl.OK}, {shifts(1), 0, 12, nil, impl.OK}, {shifts(1), 1, 2, []string{"a", "A", "aa", "AA"}, impl.OK}, {shifts(1), 0.99999994, 2, nil, impl.OK}, {shifts(0.5), 0.5, 3, []string{"a", "A"}, impl.OK},
		{shifts(1, 2), infinite, 2, all, impl.OK}, {shifts(1, 2), greatest, 2, all, impl.OK}, {shifts(1, 1), 0, 2, []string{"aB", "Ab", "bA", "Ba"}, impl.OK}, {shifts(1, 2), 0, 3, []string{"aaB", "aBa", "AAb", "AbA", "bAA", "Baa"}, impl.OK}, {shifts(1, -1), 0, 2, []string{"ab", "AB", "ba", "BA"}, impl.OK},
		{familyOf(great), 0, 1, nil, impl.OK}, {familyOf(great), 0, 2, nil, impl.ErrLimit}, {familyOf(great), infinite, 12, nil, impl.ErrLimit}, {familyOf(untidy), 0, 1, nil, impl.ErrLimit}, {familyOf(untidy), 0, 0, nil, impl.OK}, {familyOf(shifts(0).Maps[0], great), 0, 2, nil, impl.ErrLimit}, {familyOf(shifts(0).Maps[0], great), 0, 1, []string{"a", "A"}, impl.OK},
		{shifts(0, 0), 0, 7, nil, impl.ErrLimit}, {shifts(0, 0, 0), 0, 5, nil, impl.ErrLimit}, {shifts(0, 0, 0, 0), 0, 4, nil, impl.ErrLimit}, {shifts(0, 0, 0, 0), 0, 12, nil, impl.ErrLimit},
		{flip, minus(least), 2, nil, impl.ErrRange}, {flip, -1, 2, nil, impl.ErrRange}, {flip, minus(infinite), 2, nil, impl.ErrRange}, {flip, notNumber, 2, nil, impl.ErrRange}, {flip, minus(notNumber), 0, nil, impl.ErrRange}, {shifts(0, 0), -1, 12, nil, impl.ErrRange}, {familyOf(untidy), notNumber, 1, nil, impl.ErrRange},
	}
	for _, depth := range oddDepths() {
		cases = append(cases, struct {
			f      impl.Family
			bound  float32
			length int64
			want   []string
			code   int64
		}{flip, 0, depth, nil, impl.ErrRange})
	}
	for _, c := range cases {
		got, code := impl.NearIdentities(c.f, c.bound, c.length)
		wantWords(t, fmt.Sprint("NearIdentities ", c.f, c.bound, c.length), got, code, c.want, c.code)
	}
	for _, f := range invalidFamilies() {
		got, code := impl.NearIdentities(f, notNumber, -1)
		wantWords(t, "NearIdentities of no family", got, code, nil, impl.ErrInvalid)
		got, code = impl.NearIdentities(f, 0, 1)
		wantWords(t, "NearIdentities of no family", got, code, nil, impl.ErrInvalid)
	}
	// The map of aa is composed: it has a part of 2, which has been rounded up, and would not be valid if it were made tidy again.
	odd := familyOf(impl.Map{A: complex(1+0x1p-13, 1-0x1p-13), D: complex(0x1p-75, 0x1p-75)})
	m, code := impl.MapOfWord(odd.Maps, "aa")
	wantMap(t, "MapOfWord aa", m, code, impl.Map{A: complex(0x1p-11, 2), D: complex(0, least)}, impl.OK)
	for _, bound := range []float32{0, infinite} {
		got, code := impl.NearIdentities(odd, bound, 2)
		wantWords(t, "NearIdentities", got, code, nil, impl.ErrLimit)
	}
	// With the most words that may be met, each of them is found.
	for _, f := range []impl.Family{shifts(0), shifts(0, 0), shifts(0, 0, 0), shifts(0, 0, 0, 0)} {
		list, _ := wordsUpTo(f, mostDepth(f))
		got, code := impl.NearIdentities(f, 0, mostDepth(f))
		wantWords(t, "NearIdentities of identities", got, code, list[1:], impl.OK)
	}
}

func TestFixedOfWord(t *testing.T) {
	random := rand.New(rand.NewSource(432))
	codes := map[int64]int{}
	for range 1500 {
		f := anyFamily(random, 4)
		w := randomWord(random, len(f.Maps), random.Intn(6)+random.Intn(2)*34)
		got, code := impl.FixedOfWord(f, w)
		m, wantCode := mapOfWordForTest(f.Maps, w)
		var want []impl.Spot
		if wantCode == impl.OK {
			want, wantCode = fixedForTest(m)
		}
		wantSpots(t, fmt.Sprint("FixedOfWord ", f, w), got, code, want, wantCode)
		codes[code]++
	}
	if codes[impl.OK] == 0 || codes[impl.ErrLimit] == 0 || codes[impl.ErrState] == 0 {
		t.Errorf("codes %v", codes)
	}
}

func TestFixedOfWordEdges(t *testing.T) {
	great := impl.Map{A: 0x1p100, D: 1}
	cases := []struct {
		f    impl.Family
		w    string
		want []impl.Spot
		code int64
	}{
		{shifts(1), "a", []impl.Spot{farSpot}, impl.OK}, {shifts(1), "aa", []impl.Spot{farSpot}, impl.OK}, {shifts(1, 2), "bbAB", []impl.Spot{farSpot}, impl.OK}, {familyOf(impl.FlipMap()), "a", nearAll(1, -1), impl.OK}, {familyOf(impl.FlipMap()), "aaa", nearAll(1, -1), impl.OK},
		{shifts(1), "", nil, impl.ErrState}, {shifts(1), "aA", nil, impl.ErrState}, {shifts(1, 2), "aaB", nil, impl.ErrState}, {shifts(0), "a", nil, impl.ErrState}, {familyOf(impl.FlipMap()), "aa", nil, impl.ErrState}, {familyOf(impl.Map{A: 0x1p100, D: 0x1p-100}), "", nil, impl.ErrState},
		{shifts(1), "b", nil, impl.ErrRange}, {shifts(1), "aB", nil, impl.ErrRange}, {shifts(1), "bB", nil, impl.ErrRange}, {shifts(1, 2, 3), "abcd", nil, impl.ErrRange}, {familyOf(great), "aab", nil, impl.ErrRange},
		{familyOf(great), "aa", nil, impl.ErrLimit}, {familyOf(great), "aaAA", nil, impl.ErrLimit}, {familyOf(impl.Map{A: 0x1p100, D: 0x1p-100}), "A", nil, impl.ErrLimit},
	}
	for _, c := range cases {
		got, code := impl.FixedOfWord(c.f, c.w)
		wantSpots(t, fmt.Sprint("FixedOfWord ", c.f, c.w), got, code, c.want, c.code)
	}
	for _, f := range invalidFamilies() {
		for _, w := range []string{"", "a", "d", "x"} {
			got, code := impl.FixedOfWord(f, w)
			wantSpots(t, "FixedOfWord of no family", got, code, nil, impl.ErrInvalid)
		}
	}
	for _, w := range invalidWords() {
		got, code := impl.FixedOfWord(shifts(1, 2), w)
		wantSpots(t, "FixedOfWord of no word", got, code, nil, impl.ErrInvalid)
	}
}
