package tests

import (
	"fmt"
	"math/big"
	"math/rand"
	"reflect"
	"slices"
	"strings"
	"testing"

	"loop.example/g01171/impl"
)

// matrix is a matrix of two rows with two whole numbers each, row by row.
type matrix [4]*big.Int

func matrixOf(a, b, c, d int64) matrix {
	return matrix{big.NewInt(a), big.NewInt(b), big.NewInt(c), big.NewInt(d)}
}

func (m matrix) times(n matrix) matrix {
	at := func(i, j int) *big.Int {
		first, second := new(big.Int).Mul(m[i], n[j]), new(big.Int).Mul(m[i+1], n[j+2])
		return first.Add(first, second)
	}
	return matrix{at(0, 0), at(0, 1), at(2, 0), at(2, 1)}
}

// inverted tells the inverse of a matrix with the determinant 1.
func (m matrix) inverted() matrix {
	return matrix{m[3], new(big.Int).Neg(m[1]), new(big.Int).Neg(m[2]), m[0]}
}

func (m matrix) trace() string { return new(big.Int).Add(m[0], m[3]).String() }

// letterMatrices generate a free group: 1, 2, 0, 1 and 1, 0, 2, 1 do, and so do the first one as seen by powers of the other one.
func letterMatrices() map[byte]matrix {
	list := map[byte]matrix{}
	for i := range 4 {
		by := matrixOf(1, 0, int64(2*i), 1)
		m := by.times(matrixOf(1, 2, 0, 1)).times(by.inverted())
		list[letterOrder[2*i]], list[letterOrder[2*i+1]] = m, m.inverted()
	}
	return list
}

func matrixOfWord(w string) matrix {
	list, product := letterMatrices(), matrixOf(1, 0, 0, 1)
	for i := range len(w) {
		product = product.times(list[w[i]])
	}
	return product
}

// Words have one reduced word just if they are one element of a free group.
func TestWordsAreThoseOfAFreeGroup(t *testing.T) {
	random := rand.New(rand.NewSource(340))
	var list []string
	for range 150 {
		w := randomWord(random, 2, random.Intn(6))
		list = append(list, w, withPairs(random, w), withPairs(random, w))
	}
	matrices := make([]string, len(list))
	reduced := make([]string, len(list))
	for i, w := range list {
		matrices[i] = fmt.Sprint(matrixOfWord(w))
		reduced[i], _ = impl.ReduceWord(w)
	}
	for i, u := range list {
		for j, w := range list {
			if (matrices[i] == matrices[j]) != (reduced[i] == reduced[j]) {
				t.Errorf("ReduceWord %s: got %s, and %s: got %s", u, reduced[i], w, reduced[j])
			}
		}
	}
}

func TestMatricesOfWords(t *testing.T) {
	random := rand.New(rand.NewSource(341))
	for range 500 {
		u, w := anyWord(random), anyWord(random)
		n := int64(random.Intn(7) - 3)
		same := func(name, made string, code int64, want matrix) {
			if code == impl.OK && fmt.Sprint(matrixOfWord(made)) != fmt.Sprint(want) || code != impl.OK && code != impl.ErrLimit {
				t.Errorf("%s of %s and %s: got %s and %d", name, u, w, made, code)
			}
		}
		inverse, code := impl.InverseWord(u)
		same("InverseWord", inverse, code, matrixOfWord(u).inverted())
		joined, code := impl.JoinReduced(u, w)
		same("JoinReduced", joined, code, matrixOfWord(u).times(matrixOfWord(w)))
		power, code := impl.PowerWord(u, n)
		product, factor := matrixOf(1, 0, 0, 1), matrixOfWord(u)
		if n < 0 {
			factor = factor.inverted()
		}
		for range max(n, -n) {
			product = product.times(factor)
		}
		same("PowerWord", power, code, product)
		core, front, code := impl.CyclicCore(u)
		by := matrixOfWord(front)
		same("CyclicCore", core, code, by.inverted().times(matrixOfWord(u)).times(by))
		least, _ := impl.LeastRotation(u)
		if got, want := matrixOfWord(least).trace(), matrixOfWord(u).trace(); got != want {
			t.Errorf("LeastRotation %s: the trace is %s instead of %s", u, got, want)
		}
	}
}

// boxed lets functions with different results stand in one table.
func boxed[T any](result T, code int64) ([]any, int64) { return []any{result}, code }

func boxedTwo[T, U any](first T, second U, code int64) ([]any, int64) {
	return []any{first, second}, code
}

// wordFunctions tells all functions of words, with arguments made of two words.
func wordFunctions(u, w string, gens, n int64) map[string]func() ([]any, int64) {
	images := []string{u, w, "", "a"}
	maps := []impl.Map{{A: 1, B: 1, D: 1}, {A: 2, D: 1}, {B: 1, C: 1}, {A: 1i, D: 1}}
	return map[string]func() ([]any, int64){
		"InverseWord":   func() ([]any, int64) { return boxed(impl.InverseWord(w)) },
		"ReduceWord":    func() ([]any, int64) { return boxed(impl.ReduceWord(w)) },
		"IsReduced":     func() ([]any, int64) { return boxed(impl.IsReduced(w)) },
		"JoinReduced":   func() ([]any, int64) { return boxed(impl.JoinReduced(u, w)) },
		"PowerWord":     func() ([]any, int64) { return boxed(impl.PowerWord(w, n)) },
		"CommonStart":   func() ([]any, int64) { return boxed(impl.CommonStart(u, w)) },
		"CompareWords":  func() ([]any, int64) { return boxed(impl.CompareWords(u, w)) },
		"NextWord":      func() ([]any, int64) { return boxed(impl.NextWord(gens, w)) },
		"RankReduced":   func() ([]any, int64) { return boxed(impl.RankReduced(gens, w)) },
		"LetterSums":    func() ([]any, int64) { return boxed(impl.LetterSums(w)) },
		"CyclicCore":    func() ([]any, int64) { return boxedTwo(impl.CyclicCore(w)) },
		"RootWord":      func() ([]any, int64) { return boxedTwo(impl.RootWord(w)) },
		"LeastRotation": func() ([]any, int64) { return boxed(impl.LeastRotation(w)) },
		"AreConjugate":  func() ([]any, int64) { return boxed(impl.AreConjugate(u, w)) },
		"CodeOfWord":    func() ([]any, int64) { return boxed(impl.CodeOfWord(w)) },
		"ApplyImages":   func() ([]any, int64) { return boxed(impl.ApplyImages(images, w)) },
		"ComposeImages": func() ([]any, int64) { return boxed(impl.ComposeImages(images, images)) },
		"MapOfWord":     func() ([]any, int64) { return boxed(impl.MapOfWord(maps, w)) },
		"SpotOfWord":    func() ([]any, int64) { return boxed(impl.SpotOfWord(maps, w, near(2))) },
	}
}

func areZero(results []any) bool {
	return !slices.ContainsFunc(results, func(result any) bool { return !reflect.ValueOf(result).IsZero() })
}

// checkCalls checks that equal calls have equal results, and that what comes with an error is zero, and counts the codes.
func checkCalls(t *testing.T, calls, again map[string]func() ([]any, int64), codes map[int64]int) {
	t.Helper()
	for name, call := range calls {
		first, firstCode := call()
		second, secondCode := again[name]()
		if firstCode != secondCode || fmt.Sprint(first) != fmt.Sprint(second) {
			t.Errorf("%s: first %v and %d, then %v and %d", name, first, firstCode, second, secondCode)
		}
		if firstCode != impl.OK && !areZero(first) {
			t.Errorf("%s: got %v and %s", name, first, impl.CodeName(firstCode))
		}
		codes[firstCode]++
	}
}

func TestNoWordsAreInvalid(t *testing.T) {
	for _, w := range invalidWords() {
		for _, u := range []string{"", "ab", w} {
			for name, call := range wordFunctions(u, w, 5, 41) {
				if results, code := call(); code != impl.ErrInvalid || !areZero(results) {
					t.Errorf("%s of %q and %q: got %v and %s", name, u, w, results, impl.CodeName(code))
				}
			}
		}
	}
}

// Together with an error all results are zero values, and equal arguments have equal results.
func TestResultsOfWords(t *testing.T) {
	random := rand.New(rand.NewSource(342))
	codes := map[int64]int{}
	for range 2000 {
		u, w := anyWord(random), anyWord(random)
		if random.Intn(2) == 0 {
			u, w = wordReduced(u), wordReduced(w)
		}
		gens, n := int64(random.Intn(6)), int64(random.Intn(90)-45)
		again := wordFunctions(strings.Clone(u), strings.Clone(w), gens, n)
		for name, call := range wordFunctions(u, w, gens, n) {
			first, firstCode := call()
			second, secondCode := again[name]()
			if firstCode != secondCode || !reflect.DeepEqual(first, second) {
				t.Errorf("%s of %s and %s: first %v, then %v", name, u, w, first, second)
			}
			if firstCode != impl.OK && !areZero(first) {
				t.Errorf("%s of %s and %s: got %v and %s", name, u, w, first, impl.CodeName(firstCode))
			}
			codes[firstCode]++
		}
	}
	for _, code := range []int64{impl.OK, impl.ErrInvalid, impl.ErrRange, impl.ErrLimit, impl.ErrState} {
		if codes[code] == 0 {
			t.Errorf("no call returned %s", impl.CodeName(code))
		}
	}
}

func TestWordFunctionsReturnForAllArguments(t *testing.T) {
	random := rand.New(rand.NewSource(343))
	for range 2000 {
		text := make([]byte, random.Intn(50))
		for i := range text {
			text[i] = letterOrder[random.Intn(8)]
			if random.Intn(60) == 0 {
				text[i] = byte(random.Intn(256))
			}
		}
		gens, n := random.Int63()-random.Int63(), random.Int63()-random.Int63()
		for _, call := range wordFunctions(string(text), string(text), gens, n) {
			call()
		}
		impl.CountReduced(gens, n)
		impl.ReducedAt(gens, n, gens)
		impl.ReducedAt(1+gens&3, n&15, gens)
	}
}

// guardedWords returns a list with room behind it, and a function that reports whether list and room are as before.
func guardedWords(list []string) ([]string, func() bool) {
	whole := append(append(make([]string, 0, len(list)+8), list...), slices.Repeat([]string{"dcba"}, 8)...)
	before := slices.Clone(whole)
	return whole[:len(list)], func() bool { return slices.Equal(whole, before) }
}

func guardedMaps(list []impl.Map) ([]impl.Map, func() bool) {
	whole := append(append(make([]impl.Map, 0, len(list)+8), list...), slices.Repeat([]impl.Map{{A: 77}}, 8)...)
	before := slices.Clone(whole)
	return whole[:len(list)], func() bool { return slices.EqualFunc(whole, before, sameMaps) }
}

func TestListsOfImagesAndMapsAreNotChanged(t *testing.T) {
	random := rand.New(rand.NewSource(344))
	for range 500 {
		f, isKeptF := guardedWords(randomImages(random, 4))
		g, isKeptG := guardedWords(randomImages(random, 4))
		maps, isKeptMaps := guardedMaps([]impl.Map{randomMap(random), exactMap(random), randomMap(random), exactMap(random)}[:random.Intn(5)])
		w := randomWord(random, 4, random.Intn(6))
		impl.ValidImages(f)
		impl.ApplyImages(f, w)
		impl.MapOfWord(maps, w)
		impl.SpotOfWord(maps, w, farSpot)
		composed, _ := impl.ComposeImages(f, g)
		again, code := impl.ComposeImages(f, g)
		want := slices.Clone(again)
		composed = append(composed, "D")
		for i := range composed {
			composed[i] = "C"
		}
		wantWords(t, "ComposeImages behind a change", again, code, want, impl.OK)
		if !isKeptF() || !isKeptG() || !isKeptMaps() {
			t.Fatal("a list was changed")
		}
	}
}

func TestExampleOfChapter5(t *testing.T) {
	w, code := impl.ReduceWord("abBAc")
	wantWord(t, "ReduceWord", w, code, "c", impl.OK)
	wantCore(t, "abcBA", "c", "ab")
	wantRoot(t, "abab", "ab", 2, impl.OK)
	count, code := impl.CountReduced(2, 2)
	wantCount(t, "CountReduced", count, code, 12, impl.OK)
	w, code = impl.NextWord(1, "A")
	wantWord(t, "NextWord", w, code, "aa", impl.OK)
	c, code := impl.CodeOfWord("aA")
	if c != (impl.WordCode{2, 4}) || code != impl.OK {
		t.Errorf("CodeOfWord: got %v and %d", c, code)
	}
	if impl.MaxLetters != 40 || impl.MaxCounted != 12 {
		t.Error("the limits are not those of the document")
	}
}
