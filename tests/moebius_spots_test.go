package tests

import (
	"math/rand"
	"strings"
	"testing"

	"loop.example/g01171/impl"
)

func TestMoebiusConstants(t *testing.T) {
	for i, kind := range []int64{impl.MkIdentity, impl.MkParabolic, impl.MkElliptic, impl.MkHyperbolic, impl.MkLoxodromic} {
		wantNumber(t, "kind of a map", kind, int64(i+1))
	}
	wantNumber(t, "MaxPower", impl.MaxPower, 20)
}

func TestValidSpot(t *testing.T) {
	for _, s := range edgeSpots() {
		wantBool(t, "ValidSpot "+spotText(s), impl.ValidSpot(s), 0, true, 0)
	}
	for _, s := range invalidSpots() {
		wantBool(t, "ValidSpot "+spotText(s), impl.ValidSpot(s), 0, false, 0)
	}
}

func TestSameSpot(t *testing.T) {
	list := append(edgeSpots(), invalidSpots()...)
	for _, s := range list {
		for _, u := range list {
			want := s.Far == u.Far && bitsText(s.At) == bitsText(u.At)
			wantBool(t, "SameSpot "+spotText(s)+" and "+spotText(u), impl.SameSpot(s, u), 0, want, 0)
		}
	}
	wantBool(t, "spots with 0 and -0", impl.SameSpot(near(0), near(complex(0, minusZero))), 0, false, 0)
	wantBool(t, "0 and the far spot", impl.SameSpot(near(0), farSpot), 0, false, 0)
	wantBool(t, "NaNs of other bits", impl.SameSpot(near(complex(notNumber, 1)), near(complex(ofBits(0xffc00123), 1))), 0, true, 0)
}

func TestValidMap(t *testing.T) {
	for _, m := range edgeMaps() {
		wantBool(t, "ValidMap "+mapBits(m), impl.ValidMap(m), 0, true, 0)
	}
	for _, m := range invalidMaps() {
		wantBool(t, "ValidMap "+mapBits(m), impl.ValidMap(m), 0, false, 0)
	}
	random := rand.New(rand.NewSource(100))
	for range 3000 {
		var parts [4]complex64
		for i := range parts {
			parts[i] = mapPoint(random)
		}
		if random.Intn(3) == 0 {
			parts[2], parts[3] = parts[0], parts[1]
		}
		m := mapOf(parts)
		wantBool(t, "ValidMap "+mapBits(m), impl.ValidMap(m), 0, isValidForTest(m), 0)
	}
}

// Maps whose rows are multiples of each other are not valid, and any part that is changed makes them so.
func TestDeterminantHasAllProducts(t *testing.T) {
	for _, m := range []impl.Map{
		{A: 3 + 5i, B: 7 + 11i, C: 2 * (3 + 5i), D: 2 * (7 + 11i)},
		{A: 3 + 5i, B: 7 + 11i, C: 2i * (3 + 5i), D: 2i * (7 + 11i)},
		{A: 3 + 5i, B: 7 + 11i, C: (2 - 3i) * (3 + 5i), D: (2 - 3i) * (7 + 11i)},
	} {
		wantBool(t, "ValidMap "+mapBits(m), impl.ValidMap(m), 0, false, 0)
		reals := realsOf(m)
		for i := range reals {
			changed := reals
			changed[i] += 0x1p-18
			wantBool(t, "ValidMap, changed", impl.ValidMap(mapOfReals(changed)), 0, true, 0)
		}
	}
}

func TestSameMap(t *testing.T) {
	list := append(edgeMaps(), invalidMaps()...)
	for _, m := range list {
		for _, n := range list {
			wantBool(t, "SameMap "+mapBits(m)+" and "+mapBits(n), impl.SameMap(m, n), 0, sameMaps(m, n), 0)
		}
	}
	reals := [8]float32{0, 0, 0, 0, 0, 0, 0, 0}
	for i := range reals {
		changed, odd := reals, reals
		changed[i], odd[i] = minusZero, notNumber
		wantBool(t, "0 and -0", impl.SameMap(mapOfReals(reals), mapOfReals(changed)), 0, false, 0)
		wantBool(t, "NaN and 0", impl.SameMap(mapOfReals(odd), mapOfReals(reals)), 0, false, 0)
		again := odd
		again[i] = ofBits(0xff800001)
		wantBool(t, "NaN and another one", impl.SameMap(mapOfReals(odd), mapOfReals(again)), 0, true, 0)
	}
}

// textForTest tells the text of a map from the bits of its parts.
func textForTest(m impl.Map) string {
	text := "map"
	for _, x := range partsOf(m) {
		text += " " + bitsText(x)
	}
	return text
}

func TestMapTexts(t *testing.T) {
	random := rand.New(rand.NewSource(101))
	for _, m := range manyMaps(random, 300) {
		text := impl.MapText(m)
		if text != textForTest(m) {
			t.Errorf("MapText %s: got %q", mapBits(m), text)
		}
		read, code := impl.ReadMap(text)
		wantMap(t, "ReadMap "+text, read, code, m, impl.OK)
	}
	for _, m := range invalidMaps() {
		if text := impl.MapText(m); text != "" {
			t.Errorf("MapText of no map: got %q", text)
		}
		read, code := impl.ReadMap(textForTest(m))
		wantMap(t, "ReadMap of no map", read, code, impl.Map{}, impl.ErrSyntax)
	}
	want := "map 3f800000 00000000 3f000000 80000000 00000000 00000000 3f000000 00000001"
	if text := impl.MapText(impl.Map{A: 1, B: complex(0.5, minusZero), D: complex(0.5, least)}); text != want {
		t.Errorf("MapText: got %q", text)
	}
}

func TestReadMapOfOtherTexts(t *testing.T) {
	text := impl.MapText(impl.Map{A: 2, B: 3.1, C: 1i, D: 1})
	fields := strings.Fields(text)
	others := []string{
		"", " ", "map", "map ", text + " ", " " + text, text + "\n", "\n" + text, text + " 00000000", strings.Join(fields[:8], " "), strings.Join(fields[1:], " "),
		strings.Replace(text, "map ", "map", 1), strings.Replace(text, "map ", "map  ", 1), strings.Replace(text, "map ", "map\t", 1),
		strings.Replace(text, "map", "Map", 1), strings.Replace(text, "map", "maps", 1), strings.Replace(text, "map", "circle", 1), strings.Replace(text, "map", "", 1),
		strings.ToUpper(text), strings.ToUpper(text[:4]) + text[4:], "map" + strings.ToUpper(text[3:]), strings.Replace(text, " 00000000", " 0", 1), strings.Replace(text, " 00000000", " +0000000", 1),
		strings.Replace(text, " 00000000", " 0000_000", 1), strings.Replace(text, " 00000000", " nan", 1), strings.Replace(text, " 00000000", " 7f800000", 1),
		strings.Replace(text, " 00000000", " 7fc00000", 1), strings.Replace(text, " 00000000", " 000000000", 1), strings.Replace(text, " ", ",", 3), text + text, strings.Repeat(" ", 8), strings.Repeat(" ", 100000),
		"map" + strings.Repeat(" 00000000", 8), "map" + strings.Repeat(" 3f800000", 8), "map" + strings.Repeat(" 3f800000", 100000),
	}
	for _, other := range others {
		m, code := impl.ReadMap(other)
		wantMap(t, "ReadMap "+other[:min(len(other), 90)], m, code, impl.Map{}, impl.ErrSyntax)
	}
	for i := range text {
		for _, letter := range []byte{0, ' ', 'g', 'A', '-', 0xff} {
			changed := text[:i] + string([]byte{letter}) + text[i+1:]
			if changed != text {
				m, code := impl.ReadMap(changed)
				wantMap(t, "ReadMap "+changed, m, code, impl.Map{}, impl.ErrSyntax)
			}
		}
		m, code := impl.ReadMap(text[:i])
		wantMap(t, "ReadMap "+text[:i], m, code, impl.Map{}, impl.ErrSyntax)
	}
}

func TestSimpleMaps(t *testing.T) {
	wantMap(t, "IdentityMap", impl.IdentityMap(), 0, impl.Map{A: 1, D: 1}, 0)
	wantMap(t, "FlipMap", impl.FlipMap(), 0, impl.Map{B: 1, C: 1}, 0)
	for _, by := range edgePoints() {
		shift, code := impl.ShiftMap(by)
		times, codeTimes := impl.TimesMap(by)
		if !isFinitePoint(by) {
			wantMap(t, "ShiftMap "+bitsText(by), shift, code, impl.Map{}, impl.ErrRange)
			wantMap(t, "TimesMap "+bitsText(by), times, codeTimes, impl.Map{}, impl.ErrRange)
			continue
		}
		wantMap(t, "ShiftMap "+bitsText(by), shift, code, impl.Map{A: 1, B: by, D: 1}, impl.OK)
		if by == 0 {
			wantMap(t, "TimesMap "+bitsText(by), times, codeTimes, impl.Map{}, impl.ErrRange)
			continue
		}
		wantMap(t, "TimesMap "+bitsText(by), times, codeTimes, impl.Map{A: by, D: 1}, impl.OK)
		wantBool(t, "ValidMap of TimesMap", impl.ValidMap(times) && impl.ValidMap(shift), 0, true, 0)
	}
	for _, by := range oddPoints() {
		shift, code := impl.ShiftMap(by)
		wantMap(t, "ShiftMap "+bitsText(by), shift, code, impl.Map{}, impl.ErrRange)
		times, code := impl.TimesMap(by)
		wantMap(t, "TimesMap "+bitsText(by), times, code, impl.Map{}, impl.ErrRange)
	}
}
