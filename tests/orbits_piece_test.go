package tests

import (
	"fmt"
	"math/rand"
	"slices"
	"strings"
	"testing"

	"loop.example/g01171/impl"
)

// strongestForTest tells the letter that leads a point, if one does.
func strongestForTest(f impl.Family, x complex64) (byte, bool) {
	strongest, greatest := byte(0), float32(1)
	for _, letter := range []byte(letterOrder[:2*len(f.Maps)]) {
		stretch, isFound := stretchForTest(mapOfLetterForTest(f.Maps, letter), x)
		if isFound && stretch > greatest {
			strongest, greatest = letter, stretch
		}
	}
	return strongest, strongest != 0
}

func leadForTest(f impl.Family, x complex64, most int64) (string, complex64, int64) {
	w := ""
	for {
		letter, isOutside := strongestForTest(f, x)
		if !isOutside {
			return w, x, impl.OK
		}
		if int64(len(w)) == most {
			return "", 0, impl.ErrBudget
		}
		s := applyForTest(mapOfLetterForTest(f.Maps, letter), near(x))
		if s.Far {
			return "", 0, impl.ErrState
		}
		w, x = string(letter)+w, s.At
	}
}

func wantLed(t *testing.T, name, w string, x complex64, code int64, wantW string, wantX complex64, wantCode int64) {
	t.Helper()
	if w != wantW || !samePoints(x, wantX) || code != wantCode {
		t.Errorf("%s: got %q, %s and %s, want %q, %s and %s", name, w, listText([]complex64{x}), impl.CodeName(code), wantW, listText([]complex64{wantX}), impl.CodeName(wantCode))
	}
}

func TestIsInPieceAndLeadBack(t *testing.T) {
	random := rand.New(rand.NewSource(440))
	codes, isIn, longest := map[int64]int{}, 0, 0
	for range 4000 {
		f := anyFamily(random, 4)
		x := randomSpot(random).At
		most := []int64{0, 1, 2, 3, 10, impl.MaxBack}[random.Intn(6)]
		name := fmt.Sprint(f, x, most)
		_, isOutside := strongestForTest(f, x)
		got, code := impl.IsInPiece(f, x)
		wantBool(t, "IsInPiece "+name, got, code, !isOutside, impl.OK)
		if got {
			isIn++
		}
		w, at, code := impl.LeadBack(f, x, most)
		wantW, wantAt, wantCode := leadForTest(f, x, most)
		wantLed(t, "LeadBack "+name, w, at, code, wantW, wantAt, wantCode)
		codes[code]++
		longest = max(longest, len(w))
	}
	if codes[impl.OK] == 0 || codes[impl.ErrState] == 0 || codes[impl.ErrBudget] == 0 || isIn == 0 || longest < 5 {
		t.Errorf("codes %v, %d points in the piece, %d letters at most", codes, isIn, longest)
	}
}

// What is led back lies in the middle piece, where the word takes it; with one letter less it is not led there.
func TestLedBackPointsLieInThePiece(t *testing.T) {
	random := rand.New(rand.NewSource(441))
	lengths := map[int]int{}
	for range 3000 {
		f := anyFamily(random, 4)
		x := randomSpot(random).At
		w, at, code := impl.LeadBack(f, x, impl.MaxBack)
		if code != impl.OK {
			continue
		}
		name := fmt.Sprint("LeadBack ", f, x, " ", w)
		isIn, code := impl.IsInPiece(f, at)
		wantBool(t, name, isIn, code, true, impl.OK)
		there, code := impl.SpotOfWord(f.Maps, w, near(x))
		wantSpot(t, name, near(at), impl.OK, there, code)
		most := int64(len(w))
		again, point, code := impl.LeadBack(f, x, most)
		wantLed(t, name, again, point, code, w, at, impl.OK)
		if most > 0 {
			again, point, code = impl.LeadBack(f, x, most-1)
			wantLed(t, name, again, point, code, "", 0, impl.ErrBudget)
		}
		lengths[len(w)]++
	}
	if lengths[0] == 0 || lengths[1] == 0 || lengths[2] == 0 || lengths[3] == 0 {
		t.Errorf("lengths %v", lengths)
	}
}

func TestIsInPieceEdges(t *testing.T) {
	flip := familyOf(impl.FlipMap())
	edge := float32(0.99999994)
	cases := []struct {
		f    impl.Family
		x    complex64
		want bool
	}{
		{flip, 1, true}, {flip, -1i, true}, {flip, complex(edge, 0), false}, {flip, 2, true}, {flip, 0.5, false}, // the edge is in the piece
		{flip, 0, true}, {flip, complex(least, 0), true}, {flip, complex(minusZero, minusZero), true}, {flip, complex(0x1p-64, 0), true}, {flip, 0x1p-63, false}, // no stretch is found
		{shifts(1), 5, true}, {shifts(1, 2, 3, 4), complex(greatest, greatest), true}, {shifts(0), 0, true},
		{familyOf(impl.Map{A: 2, D: 1}), 0, false}, {familyOf(impl.Map{A: 0.5, D: 1}), 0, false}, {familyOf(impl.Map{A: 1i, D: 1}), 3, true}, {familyOf(impl.Map{A: complex(1+0x1p-23, 0), D: 1}), 3, false}, {familyOf(impl.Map{A: complex(edge, 0), D: 1}), 3, false}, // A stretches
		{familyOf(shifts(1).Maps[0], impl.Map{A: 2, D: 1}), 1, false}, {familyOf(shifts(1).Maps[0], impl.Map{A: 0.5, D: 1}), 1, false}, {familyOf(shifts(1).Maps[0], shifts(1).Maps[0], shifts(1).Maps[0], impl.Map{A: 0.5, D: 1}), 1, false}, // b, B and D do
	}
	for _, c := range cases {
		got, code := impl.IsInPiece(c.f, c.x)
		wantBool(t, fmt.Sprint("IsInPiece ", c.f, c.x), got, code, c.want, impl.OK)
	}
}

func TestLeadBackEdges(t *testing.T) {
	flip, times := familyOf(impl.FlipMap()), familyOf(impl.Map{A: 2, D: 1})
	z := complex(minusZero, minusZero)
	both := familyOf(impl.Map{A: 2, D: 1}, impl.FlipMap())                             // a stretches by 2 everywhere
	circle := familyOf(impl.Map{B: -1, C: 1, D: -3}, impl.Map{A: 3, B: 8, C: 1, D: 3}) // leads what is near 3 or -3
	cases := []struct {
		f    impl.Family
		x    complex64
		most int64
		w    string
		at   complex64
		code int64
	}{
		{flip, 0.5, 10, "a", 2, impl.OK}, {flip, 0.5, 1, "a", 2, impl.OK}, {flip, 0.5, 0, "", 0, impl.ErrBudget}, {flip, 2, 0, "", 2, impl.OK}, {flip, 2, 40, "", 2, impl.OK}, {flip, 1, 0, "", 1, impl.OK}, {flip, 0, 0, "", 0, impl.OK}, {flip, z, 40, "", z, impl.OK},
		{times, 1, 10, "", 0, impl.ErrBudget}, {times, 1, 40, "", 0, impl.ErrBudget}, {times, 0, 40, "", 0, impl.ErrBudget}, {times, 0, 0, "", 0, impl.ErrBudget},
		{times, 0x1p127, 1, "", 0, impl.ErrState}, {times, 0x1p127, 0, "", 0, impl.ErrBudget}, {times, 0x1p127, 40, "", 0, impl.ErrState}, {times, 0x1p100, 27, "", 0, impl.ErrBudget}, {times, 0x1p100, 28, "", 0, impl.ErrState}, {times, complex(0, -0x1p88), 39, "", 0, impl.ErrBudget}, {times, complex(0, -0x1p88), 40, "", 0, impl.ErrState}, {times, 0x1p87, 40, "", 0, impl.ErrBudget}, // whichever comes first
		{both, 0.5, 1, "", 0, impl.ErrBudget}, {both, 0.875, 1, "", 0, impl.ErrBudget},
		{shifts(1), 7, 0, "", 7, impl.OK}, {shifts(1, 2, 3, 4), complex(greatest, 0), 40, "", complex(greatest, 0), impl.OK},
	}
	for _, c := range cases {
		w, at, code := impl.LeadBack(c.f, c.x, c.most)
		wantLed(t, fmt.Sprint("LeadBack ", c.f, c.x, c.most), w, at, code, c.w, c.at, c.code)
	}
	for _, x := range []complex64{3, -3, 2.5, 3 + 0.5i, -3.25, 0, 5} {
		w, at, code := impl.LeadBack(circle, x, impl.MaxBack)
		wantW, wantAt, wantCode := leadForTest(circle, x, impl.MaxBack)
		wantLed(t, fmt.Sprint("LeadBack ", circle, x), w, at, code, wantW, wantAt, wantCode)
	}
}

// Of letters with the same stretch, the first one is done; of others the one with the greatest.
func TestFirstOfStrongestLetters(t *testing.T) {
	flip, turned, twice := impl.FlipMap(), impl.Map{B: -1, C: 1}, impl.Map{B: 2, C: 1}
	shift := impl.Map{A: 1, B: 1, D: 1}
	cases := []struct {
		f  impl.Family
		x  complex64
		w  string
		at complex64
	}{
		{familyOf(flip, turned), 0.5, "a", 2}, {familyOf(turned, flip), 0.5, "a", -2}, {familyOf(shift, flip, turned), 0.5, "b", 2}, {familyOf(shift, turned, flip), 0.5, "b", -2}, {familyOf(shift, shift, shift, flip), 0.5, "d", 2}, {familyOf(flip, flip, flip, flip), 0.5, "a", 2},
		{familyOf(flip, twice), 1.25, "b", 1.6}, {familyOf(twice, flip), 1.25, "a", 1.6}, {familyOf(flip, twice), 0.5, "b", 4}, {familyOf(twice, flip), 0.5, "a", 4}, // twice has 2 divided by the square
		{familyOf(impl.Map{A: 0.5, C: 0, D: 0.5}, flip), 0.5, "b", 2}, {familyOf(impl.Map{D: 1, A: 1, C: 1}, flip), 0.75, "A", 3},
	}
	for _, c := range cases {
		w, at, code := impl.LeadBack(c.f, c.x, 1)
		if at == c.at {
			at = c.at // the signs of zeros are held against math/big above
		}
		wantLed(t, fmt.Sprint("LeadBack ", c.f, c.x), w, at, code, c.w, c.at, impl.OK)
	}
}

// MaxBack letters are not too many.
func TestMostLettersThatLead(t *testing.T) {
	f := familyOf(impl.Map{A: 1, C: 1, D: 1}) // A takes 1 / z to 1 / (z - 1), and stretches there as long as z is greater than 0.5
	for _, n := range []int64{0, 1, 2, 39, impl.MaxBack} {
		x := complex(1/(float32(n)+0.375), 0)
		w, at, code := impl.LeadBack(f, x, n)
		if w != strings.Repeat("A", int(n)) || !isClose(at, 1/0.375, 0.01) || code != impl.OK {
			t.Errorf("LeadBack %v: got %s, %v and %d", x, w, at, code)
		}
		if n > 0 {
			w, at, code = impl.LeadBack(f, x, n-1)
			wantLed(t, "LeadBack", w, at, code, "", 0, impl.ErrBudget)
		}
	}
	w, at, code := impl.LeadBack(f, complex(1/(float32(impl.MaxBack)+1.375), 0), impl.MaxBack)
	wantLed(t, "LeadBack", w, at, code, "", 0, impl.ErrBudget)
}

// The letter that is done last stands first.
func TestOrderOfLettersThatLead(t *testing.T) {
	random := rand.New(rand.NewSource(442))
	met := 0
	for range 2000 {
		f := impl.Family{Maps: []impl.Map{wholeMap(random, 3), wholeMap(random, 3)}}
		x := complex(float32(random.Intn(17)-8)/4, float32(random.Intn(17)-8)/4)
		w, _, code := impl.LeadBack(f, x, impl.MaxBack)
		if code != impl.OK {
			continue
		}
		letters := strings.Split(w, "")
		slices.Reverse(letters)
		for _, letter := range letters {
			want, _ := strongestForTest(f, x)
			wantWord(t, fmt.Sprint("a letter of ", w, " of ", f), letter, 0, string(want), 0)
			m, _ := impl.LetterMap(f, letter)
			s, _ := impl.ApplyMap(m, near(x))
			x = s.At
		}
		if len(w) > 1 && w != strings.Join(letters, "") {
			met++
		}
	}
	if met == 0 {
		t.Error("no word differs from its letters in the opposite order")
	}
}

func TestErrorsOfThePiece(t *testing.T) {
	check := func(f impl.Family, x complex64, most, want int64, isPieceToo bool) {
		t.Helper()
		w, at, code := impl.LeadBack(f, x, most)
		wantLed(t, fmt.Sprint("LeadBack ", f, x, most), w, at, code, "", 0, want)
		if isPieceToo {
			is, code := impl.IsInPiece(f, x)
			wantBool(t, fmt.Sprint("IsInPiece ", f, x), is, code, false, want)
		}
	}
	for _, f := range invalidFamilies() {
		check(f, 1, 3, impl.ErrInvalid, true)
		check(f, complex(infinite, 0), -1, impl.ErrInvalid, true)
	}
	for _, f := range []impl.Family{shifts(1), familyOf(impl.Map{A: 2, D: 1}), shifts(1, 2, 3, 4)} {
		for _, x := range oddPoints() {
			check(f, x, 3, impl.ErrRange, true)
			check(f, x, 41, impl.ErrRange, true)
		}
		for _, most := range []int64{-1, impl.MaxBack + 1, -1 << 63, 1<<63 - 1, 1 << 32} {
			check(f, 1, most, impl.ErrRange, false)
		}
	}
}
