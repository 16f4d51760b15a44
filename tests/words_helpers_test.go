package tests

import (
	"cmp"
	"math/rand"
	"slices"
	"strings"
	"testing"

	"loop.example/g01171/impl"
)

// letterOrder has the letters in their order.
const letterOrder = "aAbBcCdD"

func wantWord(t *testing.T, name, got string, code int64, want string, wantCode int64) {
	t.Helper()
	if got != want || code != wantCode {
		t.Errorf("%s: got %q and %s, want %q and %s", name, got, impl.CodeName(code), want, impl.CodeName(wantCode))
	}
}

func wantWords(t *testing.T, name string, got []string, code int64, want []string, wantCode int64) {
	t.Helper()
	if !slices.Equal(got, want) || code != wantCode {
		t.Errorf("%s: got %q and %s, want %q and %s", name, got, impl.CodeName(code), want, impl.CodeName(wantCode))
	}
}

func wantCount(t *testing.T, name string, got, code, want, wantCode int64) {
	t.Helper()
	if got != want || code != wantCode {
		t.Errorf("%s: got %d and %s, want %d and %s", name, got, impl.CodeName(code), want, impl.CodeName(wantCode))
	}
}

// otherCase tells the inverse of a letter.
func otherCase(letter byte) byte { return letter ^ 'a' ^ 'A' }

// wordInverse tells the inverse of a word of any length.
func wordInverse(w string) string {
	back := []byte(w)
	slices.Reverse(back)
	for i := range back {
		back[i] = otherCase(back[i])
	}
	return string(back)
}

// wordReduced leaves out one pair of letters after the other, as long as there is one.
func wordReduced(w string) string {
	for i := 1; i < len(w); i++ {
		if w[i] == otherCase(w[i-1]) {
			return wordReduced(w[:i-1] + w[i+1:])
		}
	}
	return w
}

func isWordReduced(w string) bool { return wordReduced(w) == w }

// wordCore tells the core of a reduced word, and what stands in front of it.
func wordCore(v string) (string, string) {
	if len(v) < 2 || v[len(v)-1] != otherCase(v[0]) {
		return v, ""
	}
	core, front := wordCore(v[1 : len(v)-1])
	return core, v[:1] + front
}

// wordOrLimit tells a reduced word; the code is ErrLimit if it is too long.
func wordOrLimit(w string) (string, int64) {
	if len(w) > impl.MaxLetters {
		return "", impl.ErrLimit
	}
	return w, impl.OK
}

func letterPlace(letter byte) int { return strings.IndexByte(letterOrder, letter) }

// wordOrder orders words.
func wordOrder(u, w string) int {
	if len(u) != len(w) {
		return cmp.Compare(len(u), len(w))
	}
	for i := range len(u) {
		if u[i] != w[i] {
			return cmp.Compare(letterPlace(u[i]), letterPlace(w[i]))
		}
	}
	return 0
}

// allWords tells all words of a length, in order.
func allWords(gens, length int) []string {
	list := []string{""}
	for range length {
		var longer []string
		for _, w := range list {
			for _, letter := range letterOrder[:2*gens] {
				longer = append(longer, w+string(letter))
			}
		}
		list = longer
	}
	return list
}

// reducedWords tells all reduced words of a length, in order.
func reducedWords(gens, length int) []string {
	return slices.DeleteFunc(allWords(gens, length), func(w string) bool { return !isWordReduced(w) })
}

// randomWord has so many letters, of which some meet their inverses.
func randomWord(random *rand.Rand, gens, length int) string {
	w := make([]byte, length)
	for i := range w {
		w[i] = letterOrder[random.Intn(2*gens)]
		if i > 0 && random.Intn(4) == 0 {
			w[i] = otherCase(w[i-1])
		}
	}
	return string(w)
}

// anyWord has few generators or all of them, and any number of letters that a word may have.
func anyWord(random *rand.Rand) string {
	return randomWord(random, 1+random.Intn(4), random.Intn(impl.MaxLetters+1))
}

// randomReduced is a reduced word with so many letters.
func randomReduced(random *rand.Rand, gens, length int) string {
	w := ""
	for len(w) < length {
		letter := letterOrder[random.Intn(2*gens)]
		if len(w) == 0 || w[len(w)-1] != otherCase(letter) {
			w += string(letter)
		}
	}
	return w
}

// withPairs puts pairs of a letter and its inverse into a word as long as it stays one.
func withPairs(random *rand.Rand, w string) string {
	for len(w) <= impl.MaxLetters-2 {
		at, letter := random.Intn(len(w)+1), letterOrder[random.Intn(8)]
		w = w[:at] + string(letter) + string(otherCase(letter)) + w[at:]
	}
	return w
}

func manyWords(random *rand.Rand, n int) []string {
	full := strings.Repeat("a", impl.MaxLetters)
	list := []string{"", "a", "A", "d", "D", "aA", "Aa", "ab", "abBA", "aAbB", "abAB", "BaAb", "abcBA", "dcbaABCD", "aAa", "AaA",
		full, strings.ToUpper(full), strings.Repeat("D", impl.MaxLetters), full[:20] + strings.Repeat("A", 20), strings.Repeat("aA", 20), strings.Repeat("ab", 20),
		full[:39] + "b", "b" + full[:38] + "B", strings.Repeat("aabB", 10), full[:20] + "b" + strings.Repeat("A", 19)}
	for range n {
		list = append(list, anyWord(random), withPairs(random, anyWord(random)))
	}
	return list
}

// invalidWords have too many letters, or bytes that are none.
func invalidWords() []string {
	full := strings.Repeat("a", impl.MaxLetters)
	list := []string{full + "a", full + "A", full + "e", full + " ", strings.Repeat("aA", 20) + "a", strings.Repeat("aA", 21), full[:39] + "e", "e" + full[:39],
		full[:20] + "\x00" + full[:19], "abc ", " abc", "ab\n", "a b", "é", "aé", "ａ", "а", "\xc3", "a\xff", "-a", "1", "a1", "abcde", "ABCDE", "aBcDeF", strings.Repeat("a", 100000), strings.Repeat("é", 20)}
	for b := range 256 {
		if !strings.Contains(letterOrder, string([]byte{byte(b)})) {
			list = append(list, string([]byte{byte(b)}), string([]byte{'a', byte(b), 'A'}))
		}
	}
	return list
}
