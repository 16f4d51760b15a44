package tests

import (
	"fmt"
	"math/rand"
	"slices"
	"strings"
	"testing"

	"loop.example/g01171/impl"
)

func codesOf(words []string) []byte {
	var data []byte
	for _, w := range words {
		code := codeForTest(w)
		data = append(data, code[:]...)
	}
	return data
}

func wordFileForTest(words []string) []impl.Frame { return fileForTest(3, len(words), codesOf(words)) }

// wordOfBytes tells the word of which 16 bytes are the code, if there is one.
func wordOfBytes(data []byte) (string, bool) {
	bits := ""
	for _, b := range data[1:] {
		bits += fmt.Sprintf("%08b", b)
	}
	w := ""
	for i := range min(int(data[0]), 40) {
		number := strings.Index("000 001 010 011 100 101 110 111", bits[3*i:3*i+3]) / 4
		w += string(letterOrder[number])
	}
	return w, slices.Equal(codesOf([]string{w}), data)
}

// readWordsForTest tells what ReadWordFile has to return.
func readWordsForTest(list []impl.Frame) ([]string, int64) {
	kind, count, data, code := unpackFileForTest(list)
	if code != impl.OK {
		return nil, code
	}
	if kind != 3 || int64(len(data)) != 16*count {
		return nil, impl.ErrSyntax
	}
	var words []string
	for ; len(data) > 0; data = data[16:] {
		w, isWord := wordOfBytes(data[:16])
		if !isWord {
			return nil, impl.ErrSyntax
		}
		words = append(words, w)
	}
	return words, impl.OK
}

// wantReadWords checks what ReadWordFile returns, and tells its code.
func wantReadWords(t *testing.T, name string, list []impl.Frame) int64 {
	t.Helper()
	words, code := impl.ReadWordFile(list)
	want, wantCode := readWordsForTest(list)
	wantWords(t, "ReadWordFile of "+name, words, code, want, wantCode)
	return code
}

func wantWordsCode(t *testing.T, name string, list []impl.Frame, want int64) {
	t.Helper()
	wantNumber(t, "ReadWordFile of "+name, wantReadWords(t, name, list), want)
}

func TestWordFiles(t *testing.T) {
	random := rand.New(rand.NewSource(750))
	full := strings.Repeat("D", impl.MaxLetters)
	lists := [][]string{nil, {""}, {"", "", ""}, {"aB", ""}, {full}, {full, full, "a"}, {"aA", "Bb", "abBA"}, slices.Repeat([]string{full}, 256), make([]string, 256), manyWords(random, 100)}
	for n := range 20 {
		words := make([]string, n)
		for i := range words {
			words[i] = anyWord(random)
		}
		lists = append(lists, words)
	}
	for _, words := range lists {
		name := fmt.Sprint(len(words), " words")
		list, code := impl.WordFile(words)
		wantFrames(t, "WordFile of "+name, list, code, wordFileForTest(words), impl.OK)
		back, code := impl.ReadWordFile(list)
		wantWords(t, "ReadWordFile of "+name, back, code, words, impl.OK)
	}
	for _, n := range []int{257, 258, 100000} {
		list, code := impl.WordFile(slices.Repeat([]string{"ab"}, n))
		wantFrames(t, fmt.Sprint("WordFile of ", n), list, code, nil, impl.ErrLimit)
	}
	list, _ := impl.WordFile([]string{"aA"})
	wantBytes(t, "the payloads of WordFile", payloadsOf(list), 0, slices.Concat([]byte{77, 80, 78, 3, 0, 0, 0, 1, 0, 0, 0, 16, 2, 4}, make([]byte, 22)), 0)
}

func TestWordFileOfNoWords(t *testing.T) {
	for _, w := range invalidWords() {
		for _, words := range [][]string{{w}, {w, "a"}, {"a", "b", w}, append(make([]string, 256), w), append([]string{w}, make([]string, 300)...)} {
			list, code := impl.WordFile(words)
			wantFrames(t, fmt.Sprintf("WordFile of %.20q", w), list, code, nil, impl.ErrInvalid)
		}
	}
}

func TestReadWordFileErrors(t *testing.T) {
	data := codesOf([]string{"abc", "", "DcBa"})
	wantWordsCode(t, "a file", fileForTest(3, 3, data), impl.OK)
	wantWordsCode(t, "no word", fileForTest(3, 0, nil), impl.OK)
	for _, kind := range []byte{0, 1, 2, 4} {
		wantWordsCode(t, fmt.Sprint("the kind ", kind), fileForTest(kind, 3, data), impl.ErrSyntax)
		wantWordsCode(t, fmt.Sprint("nothing of the kind ", kind), fileForTest(kind, 0, nil), impl.ErrSyntax)
	}
	for _, count := range []int{0, 1, 2, 4, 6, 48, 256, 257} {
		wantWordsCode(t, fmt.Sprint("the count ", count), fileForTest(3, count, data), impl.ErrSyntax)
	}
	for _, size := range []int{0, 1, 15, 16, 17, 31, 32, 40, 47} {
		wantWordsCode(t, fmt.Sprint(size, " bytes"), fileForTest(3, 3, data[:size]), impl.ErrSyntax)
	}
	wantWordsCode(t, "49 bytes", fileForTest(3, 3, append(slices.Clone(data), 0)), impl.ErrSyntax)
	wantWordsCode(t, "64 bytes", fileForTest(3, 3, append(slices.Clone(data), make([]byte, 16)...)), impl.ErrSyntax)
	wantWordsCode(t, "MaxWords words", fileForTest(3, 256, make([]byte, 4096)), impl.OK)
	wantWordsCode(t, "too many words", fileForTest(3, 257, make([]byte, 4112)), impl.ErrSyntax)
	wantWordsCode(t, "MaxBytes bytes", fileForTest(3, 256, make([]byte, 8192)), impl.ErrSyntax)
	wantWordsCode(t, "no frame", nil, impl.ErrSyntax)
	wantWordsCode(t, "a broken file", spoiltAt(fileForTest(3, 3, data), 3), impl.ErrProof)
	wantWordsCode(t, "a broken file of another kind", spoiltAt(fileForTest(2, 3, data), 3), impl.ErrProof)
	wantWordsCode(t, "too many frames", make([]impl.Frame, 701), impl.ErrLimit)
	// Bytes that are no codes: too many letters, and bits behind the last letter.
	for _, change := range [][2]byte{{0, 41}, {0, 2}, {0, 0}, {0, 4}, {0, 255}, {2, 1}, {3, 1}, {15, 1}, {16, 1}, {17, 128}, {31, 255}, {47, 1}, {32, 3}, {32, 40}} {
		changed := slices.Clone(data)
		changed[change[0]] = change[1]
		list := fileForTest(3, 3, changed)
		want := int64(impl.ErrSyntax)
		if _, code := readWordsForTest(list); code == impl.OK {
			want = impl.OK
		}
		wantWordsCode(t, fmt.Sprint(change[1], " at ", change[0]), list, want)
	}
	wantWordsCode(t, "41 letters", fileForTest(3, 1, append([]byte{41}, make([]byte, 15)...)), impl.ErrSyntax)
	wantWordsCode(t, "40 letters", fileForTest(3, 1, append([]byte{40}, make([]byte, 15)...)), impl.OK)
	wantWordsCode(t, "bits behind no letter", fileForTest(3, 1, append(make([]byte, 15), 1)), impl.ErrSyntax)
}

func TestChangedWordFiles(t *testing.T) {
	random := rand.New(rand.NewSource(751))
	codes := map[int64]int{}
	for range 4000 {
		words := make([]string, random.Intn(5))
		for i := range words {
			words[i] = randomWord(random, 4, []int{0, 1, 5, 38, 40}[random.Intn(5)])
		}
		list := wordFileForTest(words)
		if random.Intn(4) > 0 {
			list = changedFile(random, list)
		}
		codes[wantReadWords(t, "a changed file", list)]++
	}
	wantOften(t, codes, 300, impl.OK, impl.ErrProof, impl.ErrSyntax)
}
