package tests

import (
	"fmt"
	"math"
	"math/rand"
	"regexp"
	"strings"
	"testing"

	"loop.example/g01171/impl"
)

// deedText tells the text of a deed, if it is valid.
func deedText(d impl.Deed) (string, bool) {
	words := deedWords()
	if d.Kind < 1 || d.Kind >= int64(len(words)) || d.A < 0 || d.A > 999 || d.B < 0 || d.B > 999 {
		return "", false
	}
	how := words[d.Kind]
	if how.numbers < 1 && d.A != 0 || how.numbers < 2 && d.B != 0 {
		return "", false
	}
	return strings.TrimSpace(strings.Join([]string{how.word, fmt.Sprint(d.A), fmt.Sprint(d.B)}[:how.numbers+1], " ")), true
}

var deedPattern = regexp.MustCompile(strings.ReplaceAll(`\A(?:(?:give|work|deliver|copy|drop|quit) N|spoil N N|sync|crash)\z`, "N", "(?:0|[1-9][0-9]?[0-9]?)"))

func readDeedForTest(text string) (impl.Deed, int64) {
	if !deedPattern.MatchString(text) {
		return impl.Deed{}, impl.ErrSyntax
	}
	return deedsOf(text)[0], impl.OK
}

// checkDeed checks all functions of a deed, be it valid or not.
func checkDeed(t *testing.T, d impl.Deed) bool {
	t.Helper()
	text, isValid := deedText(d)
	wantBool(t, fmt.Sprint("ValidDeed ", d), impl.ValidDeed(d), 0, isValid, 0)
	wantWord(t, fmt.Sprint("DeedText ", d), impl.DeedText(d), 0, text, 0)
	if isValid {
		back, code := impl.ReadDeed(text)
		wantDeeds(t, "ReadDeed "+text, []impl.Deed{back}, code, []impl.Deed{d}, impl.OK)
	}
	return isValid
}

// checkReadDeed checks ReadDeed for any text.
func checkReadDeed(t *testing.T, text string) int64 {
	t.Helper()
	d, code := impl.ReadDeed(text)
	want, wantCode := readDeedForTest(text)
	wantDeeds(t, fmt.Sprintf("ReadDeed %.50q", text), []impl.Deed{d}, code, []impl.Deed{want}, wantCode)
	return code
}

func TestValidDeeds(t *testing.T) {
	numbers := []int64{0, 1, 2, 9, 10, 11, 99, 100, 101, 998, 999, 1000, 1001, -1, -2, -999, 1 << 32, 1<<32 + 1, 9999, math.MaxInt64, math.MinInt64}
	valid := 0
	for _, kind := range []int64{0, 1, 2, 3, 4, 5, 6, 7, 8, 9, 10, 11, -1, -9, 1<<32 + 1, 1 << 32, 256, 257, math.MaxInt64, math.MinInt64} {
		for _, a := range numbers {
			for _, b := range numbers {
				if checkDeed(t, impl.Deed{Kind: kind, A: a, B: b}) {
					valid++
				}
			}
		}
	}
	// 11 of the numbers are valid ones.
	wantNumber(t, "valid deeds", int64(valid), 6*11+11*11+2)
	for kind := range int64(10) {
		for a := range int64(1000) {
			checkDeed(t, impl.Deed{Kind: kind, A: a})
			checkDeed(t, impl.Deed{Kind: kind, B: a})
			checkDeed(t, impl.Deed{Kind: kind, A: 999 - a, B: a})
		}
	}
}

func TestDeedsByHand(t *testing.T) {
	cases := map[string]impl.Deed{
		"give 0": {Kind: impl.DdGive}, "work 3": {Kind: impl.DdWork, A: 3}, "deliver 11": {Kind: impl.DdDeliver, A: 11}, "copy 999": {Kind: impl.DdCopy, A: 999},
		"drop 100": {Kind: impl.DdDrop, A: 100}, "spoil 10 15": {Kind: impl.DdSpoil, A: 10, B: 15}, "spoil 0 999": {Kind: impl.DdSpoil, B: 999}, "sync": {Kind: impl.DdSync}, "crash": {Kind: impl.DdCrash}, "quit 1": {Kind: impl.DdQuit, A: 1},
	}
	for text, d := range cases {
		wantWord(t, fmt.Sprint("DeedText ", d), impl.DeedText(d), 0, text, 0)
		back, code := impl.ReadDeed(text)
		wantDeeds(t, "ReadDeed "+text, []impl.Deed{back}, code, []impl.Deed{d}, impl.OK)
	}
}

func TestNoDeedTexts(t *testing.T) {
	list := []string{"", " ", "  ", "0", "0 0", "none", "drawn", "keys", "count", "ok", "what", "-", "giv 0", "gives 0", "Give 0", "GIVE 0", "give0", "giveO", "give  0 0"}
	for _, how := range deedWords()[1:] {
		good := how.word + strings.Repeat(" 7", how.numbers)
		wantNumber(t, "ReadDeed "+good, checkReadDeed(t, good), impl.OK)
		list = append(list, good+" ", " "+good, good+"\n", "\n"+good, good+" 0", good+" 1", good+" 1 2", good+" x", good+"\x00", good+"\t", good+"; sync", strings.ToUpper(good), strings.ToUpper(good[:1])+good[1:], good[1:], "x"+good, good+"é")
		if how.numbers == 0 {
			list = append(list, how.word+"0", how.word+" ", how.word+" 0 0", how.word+how.word)
			continue
		}
		list = append(list, how.word, strings.Replace(good, " ", "  ", 1), strings.Replace(good, " ", "", 1), strings.Replace(good, " ", "\t", 1))
		for _, n := range []string{"-1", "-0", "+1", "+0", "00", "01", "001", "010", "0000", "1000", "9999", "12345", "x", "1x", "x1", "1.0", "1/2", "0x1", "1e2", "1_0", "٣", "", " ", "18446744073709551616", "18446744073709551617", strings.Repeat("9", 1000)} {
			list = append(list, strings.Replace(good, "7", n, 1), how.word+" "+n)
			at := strings.LastIndex(good, "7")
			list = append(list, good[:at]+n)
		}
	}
	list = append(list, "spoil 1", "spoil 1 ", "spoil  1", "spoil 1  2", "spoil 1 2 3", "spoil 1 2 ", "spoil", "spoil 1,2", strings.Repeat("give 0 ", 100000), strings.Repeat(" ", 1000000), strings.Repeat("7", 1000000), "sync"+strings.Repeat(" 0", 10000))
	for _, text := range list {
		wantNumber(t, fmt.Sprintf("ReadDeed %.50q", text), checkReadDeed(t, text), impl.ErrSyntax)
	}
}

func TestRandomDeedTexts(t *testing.T) {
	random := rand.New(rand.NewSource(810))
	codes := map[int64]int{}
	for range 30000 {
		d := impl.Deed{Kind: 1 + random.Int63n(9), A: random.Int63n(1100), B: random.Int63n(20)}
		how := deedWords()[d.Kind]
		text := strings.Join([]string{how.word, fmt.Sprint(d.A), fmt.Sprint(d.B)}[:how.numbers+1], " ")
		for range random.Intn(3) {
			text = spoiled(random, text)
		}
		codes[checkReadDeed(t, text)]++
	}
	wantOften(t, codes, 5000, impl.OK, impl.ErrSyntax)
}
