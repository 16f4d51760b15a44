package tests

import (
	"fmt"
	"math"
	"math/rand"
	"slices"
	"strings"
	"testing"

	"loop.example/g01171/impl"
)

func TestCompareWords(t *testing.T) {
	var list []string
	for length := range 4 {
		list = append(list, allWords(2, length)...)
	}
	for i, u := range list {
		for j, w := range list {
			want := int64(0)
			if i < j {
				want = -1
			} else if i > j {
				want = 1
			}
			got, code := impl.CompareWords(u, w)
			wantCount(t, "CompareWords "+u+" and "+w, got, code, want, impl.OK)
		}
	}
	for i, u := range letterOrder {
		for j, w := range letterOrder {
			got, code := impl.CompareWords("c"+string(u)+"D", "c"+string(w)+"D")
			wantCount(t, "CompareWords of letters", got, code, int64(min(1, max(-1, i-j))), impl.OK)
		}
	}
}

func TestCompareWordsEdges(t *testing.T) {
	full := strings.Repeat("a", impl.MaxLetters)
	cases := []struct {
		u, w string
		want int64
	}{
		{"", "", 0}, {"", "a", -1}, {"D", "aa", -1}, {"a", "A", -1}, {"A", "b", -1}, {"B", "c", -1}, {"C", "d", -1}, {"d", "D", -1}, {"a", "D", -1},
		{"ab", "aB", -1}, {"Ba", "bD", 1}, {"aA", "b", 1}, // words are not reduced
		{full, full, 0}, {full, full[:39] + "A", -1}, {full[:39] + "A", "A" + full[:39], -1}, {strings.Repeat("D", 39), full, -1},
	}
	for _, c := range cases {
		got, code := impl.CompareWords(c.u, c.w)
		wantCount(t, "CompareWords "+c.u+" and "+c.w, got, code, c.want, impl.OK)
		got, code = impl.CompareWords(c.w, c.u)
		wantCount(t, "CompareWords "+c.w+" and "+c.u, got, code, -c.want, impl.OK)
	}
	random := rand.New(rand.NewSource(310))
	for range 2000 {
		u, w := anyWord(random), anyWord(random)
		got, code := impl.CompareWords(u, w)
		wantCount(t, "CompareWords "+u+" and "+w, got, code, int64(wordOrder(u, w)), impl.OK)
	}
	for _, w := range invalidWords() {
		got, code := impl.CompareWords(w, "ab")
		wantCount(t, "CompareWords of no word first", got, code, 0, impl.ErrInvalid)
		got, code = impl.CompareWords("ab", w)
		wantCount(t, "CompareWords of no word second", got, code, 0, impl.ErrInvalid)
		got, code = impl.CompareWords(w, w)
		wantCount(t, "CompareWords of no words", got, code, 0, impl.ErrInvalid)
	}
}

// lengthsFor tells how long words may be for all of them to be listed.
func lengthsFor(gens int) int { return []int{0, 12, 6, 5, 4}[gens] }

// Reduced words, one by one, are counted and numbered, and follow each other.
func TestReducedWordsInOrder(t *testing.T) {
	for gens := 1; gens <= 4; gens++ {
		before, n := "", int64(gens)
		for length := range lengthsFor(gens) + 1 {
			list := reducedWords(gens, length)
			count, code := impl.CountReduced(n, int64(length))
			wantCount(t, fmt.Sprint("CountReduced ", gens, length), count, code, int64(len(list)), impl.OK)
			for k, w := range list {
				name := fmt.Sprint(gens, " generators, word ", k, " ", w)
				at, code := impl.ReducedAt(n, int64(length), int64(k))
				wantWord(t, "ReducedAt: "+name, at, code, w, impl.OK)
				rank, code := impl.RankReduced(n, w)
				wantCount(t, "RankReduced: "+name, rank, code, int64(k), impl.OK)
				if length > 0 {
					next, code := impl.NextWord(n, before)
					wantWord(t, "NextWord "+before+": "+name, next, code, w, impl.OK)
				}
				before = w
			}
			for _, k := range []int64{-1, int64(len(list)), math.MinInt64, math.MaxInt64} {
				at, code := impl.ReducedAt(n, int64(length), k)
				wantWord(t, "ReducedAt of no number", at, code, "", impl.ErrRange)
			}
		}
	}
}

func TestReducedWordsAtAllLengths(t *testing.T) {
	random := rand.New(rand.NewSource(311))
	for gens := int64(1); gens <= 4; gens++ {
		want := int64(1)
		for length := int64(0); length <= impl.MaxCounted; length++ {
			if length == 1 {
				want = 2 * gens
			} else if length > 1 {
				want *= 2*gens - 1
			}
			count, code := impl.CountReduced(gens, length)
			wantCount(t, "CountReduced", count, code, want, impl.OK)
			numbers := []int64{0, count / 2, count - 1}
			for range 50 {
				numbers = append(numbers, random.Int63n(count))
			}
			slices.Sort(numbers)
			before := ""
			for i, k := range numbers {
				w, code := impl.ReducedAt(gens, length, k)
				wantNumber(t, "code of ReducedAt", code, impl.OK)
				if len(w) != int(length) || !isWordReduced(w) || i > 0 && k > numbers[i-1] && wordOrder(before, w) >= 0 {
					t.Errorf("ReducedAt %d, %d, %d: got %s behind %s", gens, length, k, w, before)
				}
				before = w
				rank, code := impl.RankReduced(gens, w)
				wantCount(t, "RankReduced "+w, rank, code, k, impl.OK)
				next, _ := impl.NextWord(gens, w)
				behind, code := impl.ReducedAt(gens, length, k+1)
				if k == count-1 {
					wantWord(t, "ReducedAt behind the last one", behind, code, "", impl.ErrRange)
					behind = strings.Repeat("a", int(length)+1)
				}
				wantWord(t, "NextWord "+w, next, impl.OK, behind, impl.OK)
			}
		}
	}
}

func TestNumbersOfReducedWordsOutOfRange(t *testing.T) {
	odd := []int64{math.MinInt64, -1, 0, 5, 6, 1 << 32, 1<<32 + 2, math.MaxInt64}
	for _, gens := range odd {
		count, code := impl.CountReduced(gens, 1)
		wantCount(t, "CountReduced", count, code, 0, impl.ErrRange)
		w, code := impl.ReducedAt(gens, 1, 0)
		wantWord(t, "ReducedAt", w, code, "", impl.ErrRange)
		for _, w := range []string{"", "a", "aA", strings.Repeat("a", 13), strings.Repeat("D", 40)} {
			rank, code := impl.RankReduced(gens, w)
			wantCount(t, "RankReduced", rank, code, 0, impl.ErrRange)
			next, code := impl.NextWord(gens, w)
			wantWord(t, "NextWord", next, code, "", impl.ErrRange)
		}
	}
	for _, length := range []int64{math.MinInt64, -1, 13, 14, 1 << 32, 1<<32 + 1, math.MaxInt64} {
		count, code := impl.CountReduced(2, length)
		wantCount(t, "CountReduced", count, code, 0, impl.ErrRange)
		for _, k := range []int64{-1, 0, 1} {
			w, code := impl.ReducedAt(2, length, k)
			wantWord(t, "ReducedAt", w, code, "", impl.ErrRange)
		}
	}
	for _, c := range []struct{ gens, length, want int64 }{{1, 0, 1}, {4, 0, 1}, {1, 1, 2}, {4, 1, 8}, {1, 12, 2}, {2, 2, 12}, {2, 12, 4 * 177147}, {4, 12, 8 * 1977326743}} {
		count, code := impl.CountReduced(c.gens, c.length)
		wantCount(t, "CountReduced", count, code, c.want, impl.OK)
	}
	last, code := impl.ReducedAt(4, 12, 8*1977326743-1)
	wantWord(t, "ReducedAt of the last one", last, code, strings.Repeat("D", 12), impl.OK)
	last, code = impl.ReducedAt(4, 12, 8*1977326743)
	wantWord(t, "ReducedAt behind the last one", last, code, "", impl.ErrRange)
}

func TestNextWordEdges(t *testing.T) {
	row := func(letter string, n int) string { return strings.Repeat(letter, n) }
	cases := []struct {
		gens    int64
		w, want string
		code    int64
	}{
		{1, "", "a", impl.OK}, {4, "", "a", impl.OK}, {1, "a", "A", impl.OK}, {1, "A", "aa", impl.OK}, {1, "aa", "AA", impl.OK}, {1, "AA", "aaa", impl.OK},
		{2, "A", "b", impl.OK}, {2, "B", "aa", impl.OK}, {2, "aa", "ab", impl.OK}, {2, "aB", "AA", impl.OK}, {2, "AB", "ba", impl.OK}, {2, "bb", "Ba", impl.OK}, {2, "BB", "aaa", impl.OK},
		{4, "DD", "aaa", impl.OK}, {4, "D", "aa", impl.OK}, {3, "C", "aa", impl.OK}, {4, "C", "d", impl.OK}, {4, "dd", "Da", impl.OK}, {4, "aDD", "AAA", impl.OK}, {4, "Cd", "CD", impl.OK}, {4, "bA", "bb", impl.OK}, {2, "bAB", "bba", impl.OK},
		{1, row("a", 40), row("A", 40), impl.OK}, {1, row("A", 40), "", impl.ErrLimit}, {1, row("A", 39), row("a", 40), impl.OK},
		{2, row("B", 39), row("a", 40), impl.OK}, {2, row("B", 40), "", impl.ErrLimit}, {3, row("B", 40), row("B", 39) + "c", impl.OK}, {4, row("D", 40), "", impl.ErrLimit}, {4, row("C", 40), row("C", 39) + "d", impl.OK},
		{4, "d" + row("d", 39), "D" + row("a", 39), impl.OK}, {4, "A" + row("D", 39), "b" + row("a", 39), impl.OK},
		{1, "b", "", impl.ErrRange}, {1, "B", "", impl.ErrRange}, {2, "abc", "", impl.ErrRange}, {3, "aD", "", impl.ErrRange}, {3, row("d", 40), "", impl.ErrRange},
		{1, "bB", "", impl.ErrRange}, {2, "aAc", "", impl.ErrRange}, {0, "", "", impl.ErrRange}, {5, "", "", impl.ErrRange}, {5, "aA", "", impl.ErrRange}, // ahead of ErrState
		{1, "aA", "", impl.ErrState}, {4, "aAb", "", impl.ErrState}, {4, "abBa", "", impl.ErrState}, {2, row("B", 38) + "bB", "", impl.ErrState}, {1, row("aA", 20), "", impl.ErrState}, // ahead of ErrLimit
	}
	for _, c := range cases {
		got, code := impl.NextWord(c.gens, c.w)
		wantWord(t, fmt.Sprint("NextWord ", c.gens, " ", c.w), got, code, c.want, c.code)
	}
	for _, w := range invalidWords() {
		for _, gens := range []int64{1, 4, 0, 5} {
			got, code := impl.NextWord(gens, w)
			wantWord(t, "NextWord of no word", got, code, "", impl.ErrInvalid)
		}
	}
}

// Between a word and the one behind it, in order, there is no reduced word.
func TestNextWordLeavesNoneOut(t *testing.T) {
	random := rand.New(rand.NewSource(312))
	for range 3000 {
		gens := 1 + random.Intn(4)
		w := randomReduced(random, gens, random.Intn(impl.MaxLetters))
		if random.Intn(2) == 0 && len(w) > 2 {
			// The last letters go as far as they can.
			cut := random.Intn(len(w) - 1)
			for _, letter := range []string{letterOrder[2*gens-1 : 2*gens], letterOrder[2*gens-2 : 2*gens-1]} {
				if longer := w[:cut] + strings.Repeat(letter, len(w)-cut); isWordReduced(longer) {
					w = longer
					break
				}
			}
		}
		got, code := impl.NextWord(int64(gens), w)
		wantWord(t, "NextWord "+w, got, code, nextForTest(gens, w), impl.OK)
	}
}

// nextForTest tries greater letters from the last place on, and the least words behind them.
func nextForTest(gens int, w string) string {
	for i := len(w) - 1; i >= 0; i-- {
		for place := letterPlace(w[i]) + 1; place < 2*gens; place++ {
			if next := w[:i] + letterOrder[place:place+1]; isWordReduced(next) {
				return leastBehind(gens, next, len(w))
			}
		}
	}
	return leastBehind(gens, "", len(w)+1)
}

func leastBehind(gens int, w string, length int) string {
	for len(w) < length {
		for place := range 2 * gens {
			if longer := w + letterOrder[place:place+1]; isWordReduced(longer) {
				w = longer
				break
			}
		}
	}
	return w
}

func TestRankReducedEdges(t *testing.T) {
	cases := []struct {
		gens       int64
		w          string
		want, code int64
	}{
		{1, "", 0, impl.OK}, {4, "", 0, impl.OK}, {1, "a", 0, impl.OK}, {1, "A", 1, impl.OK}, {4, "D", 7, impl.OK}, {2, "bb", 8, impl.OK}, {2, "BB", 11, impl.OK}, {3, "bb", 12, impl.OK},
		{1, strings.Repeat("A", 12), 1, impl.OK}, {1, strings.Repeat("A", 13), 0, impl.ErrLimit}, {4, strings.Repeat("D", 12), 8*1977326743 - 1, impl.OK}, {4, strings.Repeat("a", 12), 0, impl.OK}, {4, strings.Repeat("a", 13), 0, impl.ErrLimit}, {4, strings.Repeat("d", 40), 0, impl.ErrLimit},
		{1, "b", 0, impl.ErrRange}, {1, "bB", 0, impl.ErrRange}, {3, strings.Repeat("d", 13), 0, impl.ErrRange}, {0, "", 0, impl.ErrRange}, {5, "a", 0, impl.ErrRange},
		{1, "aA", 0, impl.ErrState}, {2, "abB", 0, impl.ErrState}, {2, strings.Repeat("aA", 7), 0, impl.ErrState}, {2, strings.Repeat("a", 38) + "bB", 0, impl.ErrState},
	}
	for _, c := range cases {
		got, code := impl.RankReduced(c.gens, c.w)
		wantCount(t, fmt.Sprint("RankReduced ", c.gens, " ", c.w), got, code, c.want, c.code)
	}
	for _, w := range invalidWords() {
		for _, gens := range []int64{1, 4, 0, 5} {
			got, code := impl.RankReduced(gens, w)
			wantCount(t, "RankReduced of no word", got, code, 0, impl.ErrInvalid)
		}
	}
}
