package tests

import (
	"fmt"
	"math/rand"
	"slices"
	"strings"
	"testing"

	"loop.example/g01171/impl"
)

func someFamilies(random *rand.Rand, n int) []impl.Family {
	list := []impl.Family{shifts(1), shifts(1, 2, 3, 4), familyOf(impl.FlipMap()), familyOf(wideDeterminant0(), narrowDeterminant0())}
	for _, m := range edgeMaps() {
		list = append(list, familyOf(m), familyOf(m, m, m, m))
	}
	for range n {
		list = append(list, anyFamily(random, 4))
	}
	return list
}

func TestValidFamily(t *testing.T) {
	for _, f := range someFamilies(rand.New(rand.NewSource(400)), 200) {
		wantBool(t, fmt.Sprint("ValidFamily ", f), impl.ValidFamily(f), 0, true, 0)
	}
	for _, f := range invalidFamilies() {
		wantBool(t, fmt.Sprint("ValidFamily ", f), impl.ValidFamily(f), 0, false, 0)
	}
}

func TestSameFamily(t *testing.T) {
	list := append(someFamilies(rand.New(rand.NewSource(401)), 20), invalidFamilies()...)
	zero, minusOne := impl.Map{A: 1, D: 1}, impl.Map{A: complex(1, minusZero), D: 1}
	list = append(list, familyOf(zero), familyOf(minusOne), familyOf(zero, minusOne), familyOf(minusOne, zero), shifts(1, 2), shifts(2, 1), shifts(1, 2, 1))
	for _, f := range list {
		for _, g := range list {
			want := len(f.Maps) == len(g.Maps)
			for i := range min(len(f.Maps), len(g.Maps)) {
				want = want && sameMaps(f.Maps[i], g.Maps[i])
			}
			if impl.SameFamily(f, g) != want {
				t.Errorf("SameFamily %v and %v: got %t", f, g, !want)
			}
		}
	}
	// All NaNs are the same, also those of other bits.
	f, g := familyOf(impl.Map{A: complex(notNumber, 1)}), familyOf(impl.Map{A: complex(ofBits(0x7f800001), 1)})
	wantBool(t, "SameFamily of NaNs", impl.SameFamily(f, g), 0, true, 0)
	wantBool(t, "SameFamily of none and an empty list", impl.SameFamily(impl.Family{}, impl.Family{Maps: []impl.Map{}}), 0, true, 0)
}

func TestFamilyTextsAreRead(t *testing.T) {
	for _, f := range someFamilies(rand.New(rand.NewSource(402)), 200) {
		want := ""
		for _, m := range f.Maps {
			want += textForTest(m) + "\n"
		}
		text := impl.FamilyText(f)
		wantWord(t, "FamilyText", text, 0, want, 0)
		g, code := impl.ReadFamily(text)
		if !sameFamilies(f, g) || code != impl.OK {
			t.Errorf("ReadFamily %q: got %v and %s", text, g, impl.CodeName(code))
		}
	}
	for _, f := range invalidFamilies() {
		wantWord(t, "FamilyText of no family", impl.FamilyText(f), 0, "", 0)
	}
}

// wantNoFamily checks that no family is read, and with which code.
func wantNoFamily(t *testing.T, text string, want int64) {
	t.Helper()
	f, code := impl.ReadFamily(text)
	if f.Maps != nil || code != want {
		t.Errorf("ReadFamily of %d bytes %.200q: got %v and %s, want %s", len(text), text, f, impl.CodeName(code), impl.CodeName(want))
	}
}

func TestReadFamilyEdges(t *testing.T) {
	line := textForTest(impl.Map{A: 1, B: 1, D: 1}) + "\n"
	bare := strings.TrimSuffix(line, "\n")
	none := textForTest(impl.Map{A: 1, B: 1, C: 1, D: 1}) + "\n"
	for n := 1; n <= 4; n++ {
		f, code := impl.ReadFamily(strings.Repeat(line, n))
		if len(f.Maps) != n || !sameFamilies(f, shifts(slices.Repeat([]complex64{1}, n)...)) || code != impl.OK {
			t.Errorf("ReadFamily of %d lines: got %v and %s", n, f, impl.CodeName(code))
		}
	}
	texts := []string{
		"", "\n", "\n\n", " ", " \n", bare, line + bare, line + "\n", "\n" + line, line + "\n" + line, line + line + "\n\n", bare + "\r\n", bare + "\r", bare + " \n", " " + line, line + " ",
		strings.Repeat(line, 5), strings.Repeat(line, 4) + bare, strings.Repeat(line, 4) + "\n", strings.Repeat(line, 50), none, line + none, none + line, strings.Repeat(line, 3) + none,
		"x\n", line + "x\n", "x\n" + line, line + "x", strings.ToUpper(line), strings.Replace(line, "map", "mat", 1), strings.Replace(line, " ", "  ", 1), strings.Replace(line, "3f800000", "nan", 1), strings.Replace(line, "3f800000", "7f800000", 1), strings.Replace(line, "3f800000", "7fc00000", 1), strings.Replace(line, " ", "\n", 1),
		bare + bare + "\n", bare + " " + line, bare + ";" + line, line + "\x00", "\x00" + line, bare + "\v\n", bare + "\x85\n", bare + "\u2028" + line, "\ufeff" + line,
	}
	for _, text := range texts {
		wantNoFamily(t, text, impl.ErrSyntax)
	}
	for _, fill := range []string{"x", "\n", " ", line} {
		long := strings.Repeat(fill, impl.MaxFamilyText)
		wantNoFamily(t, long[:impl.MaxFamilyText], impl.ErrSyntax)
		wantNoFamily(t, long[:impl.MaxFamilyText]+"\n", impl.ErrRange)
		wantNoFamily(t, long+line, impl.ErrRange)
	}
	wantNoFamily(t, strings.Repeat("\n", 1000000), impl.ErrRange)
}

func TestLettersOf(t *testing.T) {
	for n, want := range []string{"", "aA", "aAbB", "aAbBcC", "aAbBcCdD"} {
		if n > 0 {
			letters, code := impl.LettersOf(shifts(make([]complex64, n)...))
			wantWord(t, "LettersOf", letters, code, want, impl.OK)
		}
	}
	for _, f := range invalidFamilies() {
		letters, code := impl.LettersOf(f)
		wantWord(t, "LettersOf no family", letters, code, "", impl.ErrInvalid)
	}
}

func TestLetterMap(t *testing.T) {
	for _, f := range someFamilies(rand.New(rand.NewSource(403)), 100) {
		for i := range letterOrder {
			letter := letterOrder[i : i+1]
			m, code := impl.LetterMap(f, letter)
			if i >= 2*len(f.Maps) {
				wantMap(t, "LetterMap "+letter, m, code, impl.Map{}, impl.ErrRange)
				continue
			}
			wantMap(t, "LetterMap "+letter, m, code, mapOfLetterForTest(f.Maps, letter[0]), impl.OK)
		}
	}
	odd := []string{"", "aA", "aa", "ab", "Ab", "AbB", "aAbBcCdD", "a ", " a", "a\n", "e", "E", "0", "\x00", "á", "\xff", strings.Repeat("a", 41), strings.Repeat("a", 100000)}
	for b := range 256 {
		if !strings.Contains(letterOrder, string([]byte{byte(b)})) {
			odd = append(odd, string([]byte{byte(b)}))
		}
	}
	for _, letter := range odd {
		for _, f := range []impl.Family{shifts(1), shifts(1, 2, 3, 4)} {
			m, code := impl.LetterMap(f, letter)
			wantMap(t, "LetterMap "+letter, m, code, impl.Map{}, impl.ErrRange)
		}
	}
	for _, f := range invalidFamilies() {
		for _, letter := range []string{"a", "A", "d", "", "x"} {
			m, code := impl.LetterMap(f, letter)
			wantMap(t, "LetterMap of no family", m, code, impl.Map{}, impl.ErrInvalid)
		}
	}
}
