package tests

import (
	"math"
	"math/rand"
	"strings"
	"testing"

	"loop.example/g01171/impl"
)

func TestValidWord(t *testing.T) {
	random := rand.New(rand.NewSource(300))
	for _, w := range manyWords(random, 500) {
		wantBool(t, "ValidWord "+w, impl.ValidWord(w), 0, true, 0)
	}
	for _, letter := range letterOrder {
		for n := range impl.MaxLetters + 3 {
			w := strings.Repeat(string(letter), n)
			wantBool(t, "ValidWord "+w, impl.ValidWord(w), 0, n <= impl.MaxLetters, 0)
		}
	}
	for _, w := range invalidWords() {
		wantBool(t, "ValidWord", impl.ValidWord(w), 0, false, 0)
	}
}

func TestInverseWord(t *testing.T) {
	random := rand.New(rand.NewSource(301))
	for _, w := range manyWords(random, 500) {
		got, code := impl.InverseWord(w)
		wantWord(t, "InverseWord "+w, got, code, wordInverse(w), impl.OK)
		back, code := impl.InverseWord(got)
		wantWord(t, "inverse of an inverse", back, code, w, impl.OK)
	}
	cases := map[string]string{"": "", "a": "A", "D": "d", "abC": "cBA", "aA": "aA", "aAb": "BaA", "abcdABCD": "dcbaDCBA"}
	for w, want := range cases {
		got, code := impl.InverseWord(w)
		wantWord(t, "InverseWord "+w, got, code, want, impl.OK)
	}
}

func TestReduceWord(t *testing.T) {
	random := rand.New(rand.NewSource(302))
	list := manyWords(random, 1000)
	for length := range 5 {
		list = append(list, allWords(2, length)...)
	}
	for _, w := range list {
		want := wordReduced(w)
		got, code := impl.ReduceWord(w)
		wantWord(t, "ReduceWord "+w, got, code, want, impl.OK)
		again, code := impl.ReduceWord(got)
		wantWord(t, "ReduceWord again", again, code, want, impl.OK)
		is, code := impl.IsReduced(w)
		wantBool(t, "IsReduced "+w, is, code, w == want, impl.OK)
		is, code = impl.IsReduced(want)
		wantBool(t, "IsReduced "+want, is, code, true, impl.OK)
	}
}

func TestReduceWordEdges(t *testing.T) {
	cases := map[string]string{
		"": "", "a": "a", "aA": "", "Aa": "", "aa": "aa", "ab": "ab", "aB": "aB",
		"abBA": "", "abBAc": "c", "cabBA": "c", "abBAabBA": "", "aAAa": "", "aAbB": "", "abAB": "abAB", "aAa": "a", "abBb": "ab",
		"abcdDCBA": "", "abcdDCBa": "aa", "bacCAB": "", "dabBAD": "", "dabBAd": "dd",
		strings.Repeat("aA", 20):                                      "",
		strings.Repeat("a", 20) + strings.Repeat("A", 20):             "",
		strings.Repeat("a", 20) + strings.Repeat("A", 19):             "a",
		"b" + strings.Repeat("a", 19) + strings.Repeat("A", 19) + "B": "",
		"d" + strings.Repeat("Aa", 19) + "d":                          "dd",
		strings.Repeat("ab", 20):                                      strings.Repeat("ab", 20),
	}
	for w, want := range cases {
		got, code := impl.ReduceWord(w)
		wantWord(t, "ReduceWord "+w, got, code, want, impl.OK)
		is, code := impl.IsReduced(w)
		wantBool(t, "IsReduced "+w, is, code, w == want, impl.OK)
	}
}

func TestJoinReduced(t *testing.T) {
	random := rand.New(rand.NewSource(303))
	codes := map[int64]int{}
	for range 5000 {
		u, w := anyWord(random), anyWord(random)
		switch random.Intn(4) {
		case 0:
			w = wordInverse(u)
		case 1:
			cut := random.Intn(len(u) + 1)
			w = wordInverse(u[cut:]) + randomWord(random, 4, cut)
		}
		want, wantCode := wordOrLimit(wordReduced(u + w))
		got, code := impl.JoinReduced(u, w)
		wantWord(t, "JoinReduced "+u+" and "+w, got, code, want, wantCode)
		codes[code]++
		none, code := impl.JoinReduced(u, wordInverse(u))
		wantWord(t, "JoinReduced with the inverse", none, code, "", impl.OK)
	}
	if codes[impl.OK] == 0 || codes[impl.ErrLimit] == 0 || len(codes) != 2 {
		t.Errorf("codes: %v", codes)
	}
}

func TestJoinReducedEdges(t *testing.T) {
	full := strings.Repeat("a", impl.MaxLetters)
	pairs := strings.Repeat("bB", 20)
	cases := []struct {
		u, w, want string
		code       int64
	}{
		{"", "", "", impl.OK},
		{"", "aA", "", impl.OK}, // both need not be reduced
		{"aAb", "bBc", "bc", impl.OK},
		{"ab", "Ba", "aa", impl.OK},
		{"ab", "BA", "", impl.OK},
		{"ba", "AB", "", impl.OK},
		{"ab", "AB", "abAB", impl.OK},
		{full, "", full, impl.OK},
		{"", full, full, impl.OK},
		{full, "a", "", impl.ErrLimit},
		{"b", full, "", impl.ErrLimit},
		{full, "A", full[:39], impl.OK},
		{"A", full, full[:39], impl.OK},
		{full, "Ab", full[:39] + "b", impl.OK}, // only longer before it is reduced
		{full, "Abb", "", impl.ErrLimit},
		{full, pairs, full, impl.OK},
		{pairs, full, full, impl.OK},
		{full, full, "", impl.ErrLimit},
		{full, strings.ToUpper(full), "", impl.OK},
		{full[:20], full[:20], full, impl.OK},
		{full[:20], full[:21], "", impl.ErrLimit},
		{full[:20] + "bB", full[:19] + "cCa", full, impl.OK},
	}
	for _, c := range cases {
		got, code := impl.JoinReduced(c.u, c.w)
		wantWord(t, "JoinReduced "+c.u+" and "+c.w, got, code, c.want, c.code)
	}
	for _, w := range invalidWords() {
		for _, u := range []string{"", "ab", full, "x"} {
			got, code := impl.JoinReduced(w, u)
			wantWord(t, "JoinReduced of no word first", got, code, "", impl.ErrInvalid)
			got, code = impl.JoinReduced(u, w)
			wantWord(t, "JoinReduced of no word second", got, code, "", impl.ErrInvalid)
		}
	}
}

func TestPowerWord(t *testing.T) {
	random := rand.New(rand.NewSource(304))
	list := manyWords(random, 20)
	for range 200 {
		front := randomWord(random, 2, random.Intn(18))
		list = append(list, front+randomWord(random, 2, random.Intn(4))+wordInverse(front))
	}
	codes := map[int64]int{}
	for _, w := range list {
		for n := -impl.MaxLetters; n <= impl.MaxLetters; n++ {
			row := strings.Repeat(w, max(n, 0)) + strings.Repeat(wordInverse(w), max(-n, 0))
			want, wantCode := wordOrLimit(wordReduced(row))
			got, code := impl.PowerWord(w, int64(n))
			wantWord(t, "PowerWord "+w, got, code, want, wantCode)
			codes[code]++
		}
	}
	if codes[impl.OK] == 0 || codes[impl.ErrLimit] == 0 || len(codes) != 2 {
		t.Errorf("codes: %v", codes)
	}
}

func TestPowerWordEdges(t *testing.T) {
	full := strings.Repeat("a", impl.MaxLetters)
	cases := []struct {
		w    string
		n    int64
		want string
		code int64
	}{
		{"", 0, "", impl.OK}, {"", 40, "", impl.OK}, {"", -40, "", impl.OK}, {"", 41, "", impl.ErrRange},
		{"ab", 0, "", impl.OK}, {"ab", 1, "ab", impl.OK}, {"ab", -1, "BA", impl.OK}, {"ab", 2, "abab", impl.OK},
		{"aB", -2, "bAbA", impl.OK}, {"abBc", 1, "ac", impl.OK}, {"aA", 40, "", impl.OK}, {"aA", -40, "", impl.OK},
		{"a", 40, full, impl.OK}, {"a", -40, strings.ToUpper(full), impl.OK}, {"A", -40, full, impl.OK},
		{"a", 41, "", impl.ErrRange}, {"a", -41, "", impl.ErrRange}, {"aA", 41, "", impl.ErrRange},
		{"ab", 20, strings.Repeat("ab", 20), impl.OK}, {"ab", 21, "", impl.ErrLimit}, {"ab", -21, "", impl.ErrLimit}, {"ab", 40, "", impl.ErrLimit}, {"ab", 41, "", impl.ErrRange},
		{"abA", 38, "a" + strings.Repeat("b", 38) + "A", impl.OK}, // 114 letters before it is reduced
		{"abA", -38, "a" + strings.Repeat("B", 38) + "A", impl.OK},
		{"abA", 39, "", impl.ErrLimit},
		{full, 1, full, impl.OK}, {full, 0, "", impl.OK}, {full, -1, strings.ToUpper(full), impl.OK}, {full, 2, "", impl.ErrLimit}, {full, 40, "", impl.ErrLimit},
		{strings.Repeat("aA", 20), 40, "", impl.OK},
	}
	for _, c := range cases {
		got, code := impl.PowerWord(c.w, c.n)
		wantWord(t, "PowerWord "+c.w, got, code, c.want, c.code)
	}
	for _, n := range []int64{41, -41, 1 << 32, 1<<32 + 1, math.MaxInt64, math.MinInt64, math.MinInt64 + 1} {
		got, code := impl.PowerWord("a", n)
		wantWord(t, "PowerWord out of range", got, code, "", impl.ErrRange)
		got, code = impl.PowerWord("x", n)
		wantWord(t, "PowerWord of no word out of range", got, code, "", impl.ErrInvalid)
	}
	for _, w := range invalidWords() {
		for _, n := range []int64{0, 1, -1, 41} {
			got, code := impl.PowerWord(w, n)
			wantWord(t, "PowerWord of no word", got, code, "", impl.ErrInvalid)
		}
	}
}

func TestCommonStart(t *testing.T) {
	random := rand.New(rand.NewSource(305))
	for range 2000 {
		u, w := anyWord(random), anyWord(random)
		cut := random.Intn(min(len(u), len(w)) + 1)
		w = u[:cut] + w[cut:]
		want := int64(0)
		for n := range min(len(u), len(w)) + 1 {
			if u[:n] == w[:n] {
				want = int64(n)
			}
		}
		got, code := impl.CommonStart(u, w)
		wantCount(t, "CommonStart "+u+" and "+w, got, code, want, impl.OK)
	}
	full := strings.Repeat("a", impl.MaxLetters)
	cases := []struct {
		u, w string
		want int64
	}{
		{"", "", 0}, {"", "a", 0}, {"a", "", 0}, {"a", "a", 1}, {"a", "A", 0}, {"abc", "abd", 2}, {"abc", "ab", 2}, {"ab", "abc", 2},
		{"aAb", "b", 0}, {"aAb", "aAc", 2}, {"abc", "bbc", 0}, {"abcd", "aacd", 1}, {full, full, 40}, {full, full[:39] + "A", 39}, {full, full[:1], 1},
	}
	for _, c := range cases {
		got, code := impl.CommonStart(c.u, c.w)
		wantCount(t, "CommonStart "+c.u+" and "+c.w, got, code, c.want, impl.OK)
	}
	for _, w := range invalidWords() {
		got, code := impl.CommonStart(w, "ab")
		wantCount(t, "CommonStart of no word first", got, code, 0, impl.ErrInvalid)
		got, code = impl.CommonStart("ab", w)
		wantCount(t, "CommonStart of no word second", got, code, 0, impl.ErrInvalid)
		got, code = impl.CommonStart(w, w)
		wantCount(t, "CommonStart of no words", got, code, 0, impl.ErrInvalid)
	}
}
