package tests

import (
	"fmt"
	"math/rand"
	"strconv"
	"strings"
	"testing"

	"loop.example/g01171/impl"
)

func wantCore(t *testing.T, w, core, front string) {
	t.Helper()
	gotCore, gotFront, code := impl.CyclicCore(w)
	if gotCore != core || gotFront != front || code != impl.OK {
		t.Errorf("CyclicCore %s: got %q behind %q and %s, want %q behind %q", w, gotCore, gotFront, impl.CodeName(code), core, front)
	}
}

func wantRoot(t *testing.T, w, root string, times, wantCode int64) {
	t.Helper()
	got, n, code := impl.RootWord(w)
	if got != root || n != times || code != wantCode {
		t.Errorf("RootWord %s: got %q, %d times, and %s, want %q, %d times, and %s", w, got, n, impl.CodeName(code), root, times, impl.CodeName(wantCode))
	}
}

// wordsWithCores are words with cores that are powers, and words of all kinds.
func wordsWithCores(random *rand.Rand, n int) []string {
	list := manyWords(random, n)
	for range n {
		root := randomReduced(random, 1+random.Intn(4), 1+random.Intn(5))
		w := strings.Repeat(root, 1+random.Intn(4))
		front := randomReduced(random, 4, random.Intn((impl.MaxLetters-len(w))/2+1))
		list = append(list, withPairs(random, front+w+wordInverse(front)), front+w+wordInverse(front))
	}
	return list
}

func TestLetterSums(t *testing.T) {
	random := rand.New(rand.NewSource(320))
	for _, w := range manyWords(random, 500) {
		var want [4]int64
		for i := range want {
			want[i] = int64(strings.Count(w, letterOrder[2*i:2*i+1]) - strings.Count(w, letterOrder[2*i+1:2*i+2]))
		}
		got, code := impl.LetterSums(w)
		if got != want || code != impl.OK {
			t.Errorf("LetterSums %s: got %v and %d, want %v", w, got, code, want)
		}
	}
	cases := map[string][4]int64{"": {}, "a": {1}, "A": {-1}, "D": {0, 0, 0, -1}, "abA": {0, 1}, "aA": {}, "abcdd": {1, 1, 1, 2}, "CbaaB": {2, 0, -1},
		strings.Repeat("c", 40): {0, 0, 40}, strings.Repeat("B", 40): {0, -40}, strings.Repeat("aD", 20): {20, 0, 0, -20}}
	for w, want := range cases {
		got, code := impl.LetterSums(w)
		if got != want || code != impl.OK {
			t.Errorf("LetterSums %s: got %v and %d, want %v", w, got, code, want)
		}
	}
}

func TestCyclicCore(t *testing.T) {
	random := rand.New(rand.NewSource(321))
	for _, w := range wordsWithCores(random, 1000) {
		core, front := wordCore(wordReduced(w))
		wantCore(t, w, core, front)
		if front+core+wordInverse(front) != wordReduced(w) {
			t.Errorf("the parts of %s are not its reduced word", w)
		}
	}
	full := strings.Repeat("a", impl.MaxLetters)
	cases := []struct{ w, core, front string }{
		{"", "", ""}, {"aA", "", ""}, {"abBA", "", ""}, {"a", "a", ""}, {"D", "D", ""}, {"aAa", "a", ""}, // reduced ahead of all
		{"abcBA", "c", "ab"}, {"abA", "b", "a"}, {"abAb", "abAb", ""}, {"ab", "ab", ""}, {"aa", "aa", ""}, {"abcA", "bc", "a"}, {"abBbA", "b", "a"},
		{"abAa", "ab", ""}, {"aabAA", "b", "aa"}, {"aba", "aba", ""}, {"abaBA", "a", "ab"}, {"abaaBA", "aa", "ab"}, {"dabcABD", "abcAB", "d"},
		{full, full, ""}, {full[:39] + "b", full[:39] + "b", ""}, {"b" + full[:38] + "B", full[:38], "b"},
		{full[:19] + "bc" + strings.Repeat("A", 19), "bc", full[:19]}, {full[:19] + "b" + strings.Repeat("A", 19), "b", full[:19]}, {full[:20] + strings.Repeat("A", 20), "", ""},
	}
	for _, c := range cases {
		wantCore(t, c.w, c.core, c.front)
	}
}

// rootWordForTest tries all beginnings of a core, the shortest one first.
func rootWordForTest(core string) (string, int64) {
	for n := 1; ; n++ {
		if len(core)%n == 0 && strings.Repeat(core[:n], len(core)/n) == core {
			return core[:n], int64(len(core) / n)
		}
	}
}

func TestRootWord(t *testing.T) {
	random := rand.New(rand.NewSource(322))
	powers := 0
	for _, w := range wordsWithCores(random, 1000) {
		core, _ := wordCore(wordReduced(w))
		if core == "" {
			wantRoot(t, w, "", 0, impl.ErrState)
			continue
		}
		root, times := rootWordForTest(core)
		wantRoot(t, w, root, times, impl.OK)
		if times > 1 {
			powers++
		}
		power, code := impl.PowerWord(root, times)
		wantWord(t, "power of the root", power, code, core, impl.OK)
	}
	if powers < 100 {
		t.Errorf("only %d cores were powers", powers)
	}
	cases := []struct {
		w, root string
		times   int64
		code    int64
	}{
		{"", "", 0, impl.ErrState}, {"aA", "", 0, impl.ErrState}, {"abBA", "", 0, impl.ErrState}, {strings.Repeat("aA", 20), "", 0, impl.ErrState},
		{"a", "a", 1, impl.OK}, {"A", "A", 1, impl.OK}, {"aa", "a", 2, impl.OK}, {"ab", "ab", 1, impl.OK}, {"abab", "ab", 2, impl.OK}, {"aba", "aba", 1, impl.OK}, {"aabaab", "aab", 2, impl.OK},
		{"abaab", "abaab", 1, impl.OK}, {"abaaba", "aba", 2, impl.OK}, {"abAB", "abAB", 1, impl.OK}, {"abABabAB", "abAB", 2, impl.OK}, {"cababC", "ab", 2, impl.OK}, {"abaaBA", "a", 2, impl.OK}, {"abbA", "b", 2, impl.OK}, {"aaBbaa", "a", 4, impl.OK},
		{strings.Repeat("D", 40), "D", 40, impl.OK}, {strings.Repeat("ab", 20), "ab", 20, impl.OK}, {strings.Repeat("a", 39) + "b", strings.Repeat("a", 39) + "b", 1, impl.OK}, {strings.Repeat("aaab", 10), "aaab", 10, impl.OK},
		{strings.Repeat(strings.Repeat("a", 19)+"b", 2), strings.Repeat("a", 19) + "b", 2, impl.OK},
	}
	for _, c := range cases {
		wantRoot(t, c.w, c.root, c.times, c.code)
	}
}

// leastRotationForTest tells the first one of all rotations of a core.
func leastRotationForTest(w string) string {
	core, _ := wordCore(wordReduced(w))
	least := core
	for i := range core {
		if rotated := core[i:] + core[:i]; wordOrder(rotated, least) < 0 {
			least = rotated
		}
	}
	return least
}

func TestLeastRotation(t *testing.T) {
	random := rand.New(rand.NewSource(323))
	for _, w := range wordsWithCores(random, 1000) {
		got, code := impl.LeastRotation(w)
		wantWord(t, "LeastRotation "+w, got, code, leastRotationForTest(w), impl.OK)
		again, code := impl.LeastRotation(got)
		wantWord(t, "LeastRotation again", again, code, got, impl.OK)
	}
	cases := map[string]string{"": "", "aA": "", "a": "a", "B": "B", "ba": "ab", "ab": "ab", "Ba": "aB", "bA": "Ab", "BA": "AB", "AB": "AB", "dcba": "adcb", "baba": "abab",
		"cbaC": "ab", "bAa": "b", "BabA": "abAB", "aBAb": "aBAb", "AbaB": "aBAb", "DCBA": "ADCB", "dCbA": "AdCb", "aaba": "aaab", "AbAB": "AbAB", "ABAb": "AbAB", "bbBba": "abb", strings.Repeat("ba", 20): strings.Repeat("ab", 20), strings.Repeat("b", 39) + "a": "a" + strings.Repeat("b", 39), strings.Repeat("d", 40): strings.Repeat("d", 40)}
	for w, want := range cases {
		got, code := impl.LeastRotation(w)
		wantWord(t, "LeastRotation "+w, got, code, want, impl.OK)
	}
}

// areConjugateForTest tells whether one core is a rotation of the other one.
func areConjugateForTest(u, w string) bool {
	first, _ := wordCore(wordReduced(u))
	second, _ := wordCore(wordReduced(w))
	return len(first) == len(second) && strings.Contains(first+first, second)
}

func TestAreConjugate(t *testing.T) {
	var list []string
	for length := range 5 {
		list = append(list, allWords(2, length)...)
	}
	random := rand.New(rand.NewSource(324))
	seen := map[bool]int{}
	for range 20000 {
		u, w := list[random.Intn(len(list))], list[random.Intn(len(list))]
		want := areConjugateForTest(u, w)
		got, code := impl.AreConjugate(u, w)
		wantBool(t, "AreConjugate "+u+" and "+w, got, code, want, impl.OK)
		seen[want]++
	}
	if seen[true] < 500 || seen[false] < 500 {
		t.Errorf("only %v were tried", seen)
	}
	cases := []struct {
		u, w string
		want bool
	}{
		{"", "", true}, {"", "aA", true}, {"", "a", false}, {"a", "A", false}, {"a", "a", true}, {"a", "b", false}, {"abA", "b", true}, {"abA", "cbC", true}, {"abA", "cdbDC", true}, // different fronts
		{"ab", "ba", true}, {"ab", "AB", false}, {"ab", "BA", false}, {"abAB", "BabA", true}, {"abAB", "baBA", false}, {"abc", "acb", false}, {"abc", "bca", true}, {"dabcD", "Bcabb", true}, {"ab", "abab", false}, {"abab", "baba", true}, {"aab", "abb", false}, {"aabb", "abab", false},
	}
	for _, c := range cases {
		got, code := impl.AreConjugate(c.u, c.w)
		wantBool(t, "AreConjugate "+c.u+" and "+c.w, got, code, c.want, impl.OK)
	}
	for _, w := range invalidWords() {
		got, code := impl.AreConjugate(w, "a")
		wantBool(t, "AreConjugate of no word first", got, code, false, impl.ErrInvalid)
		got, code = impl.AreConjugate("a", w)
		wantBool(t, "AreConjugate of no word second", got, code, false, impl.ErrInvalid)
		got, code = impl.AreConjugate(w, w)
		wantBool(t, "AreConjugate of no words", got, code, false, impl.ErrInvalid)
	}
}

// Words behind any fronts have one least rotation, equal sums, and equal roots but for their rotations.
func TestConjugateWordsAreAlike(t *testing.T) {
	random := rand.New(rand.NewSource(325))
	for range 2000 {
		core := randomReduced(random, 1+random.Intn(4), random.Intn(9))
		conjugated := func() string {
			cut, front := random.Intn(len(core)+1), randomWord(random, 4, random.Intn(16))
			return front + core[cut:] + core[:cut] + wordInverse(front)
		}
		u, w := conjugated(), conjugated()
		is, code := impl.AreConjugate(u, w)
		wantBool(t, "AreConjugate "+u+" and "+w, is, code, true, impl.OK)
		first, _ := impl.LeastRotation(u)
		second, code := impl.LeastRotation(w)
		wantWord(t, "LeastRotation "+w, second, code, first, impl.OK)
		sums, _ := impl.LetterSums(u)
		others, code := impl.LetterSums(w)
		if sums != others || code != impl.OK {
			t.Errorf("LetterSums %s: %v, and %s: %v", u, sums, w, others)
		}
		root, times, rootCode := impl.RootWord(u)
		other, number, otherCode := impl.RootWord(w)
		is, _ = impl.AreConjugate(root, other)
		if !is || times != number || rootCode != otherCode {
			t.Errorf("RootWord %s: %s, %d times, and %s: %s, %d times", u, root, times, w, other, number)
		}
	}
}

// codeForTest writes all bits as a text.
func codeForTest(w string) impl.WordCode {
	text := ""
	for i := range len(w) {
		text += fmt.Sprintf("%03b", letterPlace(w[i]))
	}
	text += strings.Repeat("0", 120-len(text))
	c := impl.WordCode{byte(len(w))}
	for i := range 15 {
		number, _ := strconv.ParseUint(text[8*i:8*i+8], 2, 8)
		c[i+1] = byte(number)
	}
	return c
}

func TestCodesOfWords(t *testing.T) {
	random := rand.New(rand.NewSource(326))
	list := manyWords(random, 500)
	for length := range 4 {
		list = append(list, allWords(4, length)...)
	}
	isMet := map[impl.WordCode]string{}
	for _, w := range list {
		c, code := impl.CodeOfWord(w)
		if c != codeForTest(w) || code != impl.OK {
			t.Errorf("CodeOfWord %s: got %v and %d, want %v", w, c, code, codeForTest(w))
		}
		if other, is := isMet[c]; is && other != w {
			t.Errorf("%s and %s have one code", w, other)
		}
		isMet[c] = w
		back, code := impl.WordOfCode(c)
		wantWord(t, "WordOfCode", back, code, w, impl.OK)
	}
}

func TestWordOfCodeEdges(t *testing.T) {
	var full impl.WordCode
	for i := range full {
		full[i] = 0xff
	}
	full[0] = impl.MaxLetters
	cases := []struct {
		c    impl.WordCode
		want string
		code int64
	}{
		{impl.WordCode{}, "", impl.OK}, {impl.WordCode{1}, "a", impl.OK}, {impl.WordCode{2, 4}, "aA", impl.OK}, {impl.WordCode{3, 4}, "aAa", impl.OK}, {impl.WordCode{40}, strings.Repeat("a", 40), impl.OK}, {full, strings.Repeat("D", 40), impl.OK},
		{impl.WordCode{3, 0x05, 0x80}, "aAB", impl.OK}, {impl.WordCode{8, 0x05, 0x39, 0x77}, "aAbBcCdD", impl.OK},
		{impl.WordCode{41}, "", impl.ErrSyntax}, {impl.WordCode{42}, "", impl.ErrSyntax}, {impl.WordCode{255}, "", impl.ErrSyntax}, {impl.WordCode{128}, "", impl.ErrSyntax},
		{impl.WordCode{0, 1}, "", impl.ErrSyntax}, {impl.WordCode{0, 0x80}, "", impl.ErrSyntax}, {impl.WordCode{1, 4}, "", impl.ErrSyntax}, {impl.WordCode{1, 0x10}, "", impl.ErrSyntax}, {impl.WordCode{2, 4, 0x80}, "", impl.ErrSyntax}, {impl.WordCode{0, 15: 1}, "", impl.ErrSyntax}, {impl.WordCode{39, 15: 1}, "", impl.ErrSyntax}, {impl.WordCode{39, 15: 8}, strings.Repeat("a", 38) + "A", impl.OK},
	}
	for _, c := range cases {
		got, code := impl.WordOfCode(c.c)
		wantWord(t, fmt.Sprint("WordOfCode ", c.c), got, code, c.want, c.code)
	}
}

// Each bit of a code counts: it is one of a letter, or has to be 0.
func TestBitsOfCodes(t *testing.T) {
	random := rand.New(rand.NewSource(327))
	for _, w := range manyWords(random, 60) {
		for bit := range 120 {
			c := codeForTest(w)
			c[1+bit/8] ^= 0x80 >> (bit % 8)
			got, code := impl.WordOfCode(c)
			if bit >= 3*len(w) {
				wantWord(t, fmt.Sprint("WordOfCode ", c), got, code, "", impl.ErrSyntax)
				continue
			}
			place := letterPlace(w[bit/3]) ^ 4>>(bit%3)
			want := w[:bit/3] + letterOrder[place:place+1] + w[bit/3+1:]
			wantWord(t, fmt.Sprint("WordOfCode ", c), got, code, want, impl.OK)
		}
	}
	for range 2000 {
		var c impl.WordCode
		for i := range c {
			c[i] = byte(random.Intn(256))
		}
		c[0] = byte(random.Intn(44))
		if w, code := impl.WordOfCode(c); (code == impl.OK) != (codeForTest(w) == c) || code != impl.OK && (w != "" || code != impl.ErrSyntax) {
			t.Errorf("WordOfCode %v: got %q and %d", c, w, code)
		}
	}
}
