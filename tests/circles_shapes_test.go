package tests

import (
	"math/big"
	"math/rand"
	"strings"
	"testing"

	"loop.example/g01171/impl"
)

func TestCircleConstants(t *testing.T) {
	for i, kind := range []int64{impl.CrCross, impl.CrTouch, impl.CrApart} {
		wantNumber(t, "how two circles meet", kind, int64(i+1))
	}
}

func TestValidCircle(t *testing.T) {
	for _, c := range edgeCircles() {
		wantBool(t, "ValidCircle "+circleBits(c), impl.ValidCircle(c), 0, true, 0)
	}
	for _, c := range invalidCircles() {
		wantBool(t, "ValidCircle "+circleBits(c), impl.ValidCircle(c), 0, false, 0)
	}
	random := rand.New(rand.NewSource(200))
	for range 5000 {
		c := circleOfReals([4]float32{mapPart(random), mapPart(random), mapPart(random), mapPart(random)})
		wantBool(t, "ValidCircle "+circleBits(c), impl.ValidCircle(c), 0, isValidCircleForTest(c), 0)
	}
}

// The least changes of the parts of a point make it a circle, or nothing.
func TestDiscriminantsAreExact(t *testing.T) {
	for _, c := range []impl.Circle{{A: 1, B: 3 + 4i, C: 25}, {A: 0x1p-60, B: 0x1p-20i, C: 0x1p20}, {A: -2, B: 6, C: -18}} {
		wantBool(t, "ValidCircle of a point", impl.ValidCircle(c), 0, false, 0)
		for i := range 4 {
			for _, next := range []func(float32) float32{impl.NextAbove, impl.NextBelow} {
				reals := realsOfCircle(c)
				reals[i] = next(reals[i])
				changed := circleOfReals(reals)
				wantBool(t, "ValidCircle "+circleBits(changed), impl.ValidCircle(changed), 0, isValidCircleForTest(changed), 0)
			}
		}
	}
}

func TestSameCircle(t *testing.T) {
	list := append(edgeCircles(), invalidCircles()...)
	for _, c := range list {
		for _, d := range list {
			wantBool(t, "SameCircle "+circleBits(c)+" and "+circleBits(d), impl.SameCircle(c, d), 0, sameCircles(c, d), 0)
		}
	}
	for i := range 4 {
		var reals [4]float32
		changed, odd := reals, reals
		changed[i], odd[i] = minusZero, notNumber
		wantBool(t, "0 and -0", impl.SameCircle(circleOfReals(reals), circleOfReals(changed)), 0, false, 0)
		wantBool(t, "NaN and 0", impl.SameCircle(circleOfReals(odd), circleOfReals(reals)), 0, false, 0)
		again := odd
		again[i] = ofBits(0xff800001)
		wantBool(t, "NaN and another one", impl.SameCircle(circleOfReals(odd), circleOfReals(again)), 0, true, 0)
	}
}

// circleTextForTest tells the text of a circle from the bits of its parts.
func circleTextForTest(c impl.Circle) string {
	ends := strings.Fields(bitsText(complex(c.A, c.C)))
	return "circle " + ends[0] + " " + bitsText(c.B) + " " + ends[1]
}

func TestCircleTexts(t *testing.T) {
	random := rand.New(rand.NewSource(201))
	for _, c := range append(manyCircles(random, 500), zeroCircles()...) {
		text := impl.CircleText(c)
		if text != circleTextForTest(c) {
			t.Errorf("CircleText %s: got %q", circleBits(c), text)
		}
		read, code := impl.ReadCircle(text)
		wantCircle(t, "ReadCircle "+text, read, code, c, impl.OK)
	}
	for _, c := range invalidCircles() {
		if text := impl.CircleText(c); text != "" {
			t.Errorf("CircleText of no circle: got %q", text)
		}
		read, code := impl.ReadCircle(circleTextForTest(c))
		wantCircle(t, "ReadCircle of no circle", read, code, impl.Circle{}, impl.ErrSyntax)
	}
	if text := impl.CircleText(impl.Circle{A: 1, B: complex(0.5, minusZero), C: minus(least)}); text != "circle 3f800000 3f000000 80000000 80000001" {
		t.Errorf("CircleText: got %q", text)
	}
}

func TestReadCircleOfOtherTexts(t *testing.T) {
	text := impl.CircleText(impl.Circle{A: 1, B: 3.1, C: -2})
	fields := strings.Fields(text)
	others := []string{
		"", " ", "circle", "circle ", text + " ", " " + text, text + "\n", "\n" + text, text + " 00000000", strings.Join(fields[:4], " "), strings.Join(fields[1:], " "),
		strings.Replace(text, "circle ", "circle", 1), strings.Replace(text, "circle ", "circle  ", 1), strings.Replace(text, "circle ", "circle\t", 1),
		strings.Replace(text, "circle", "Circle", 1), strings.Replace(text, "circle", "circles", 1), strings.Replace(text, "circle", "map", 1), strings.Replace(text, "circle", "line", 1), strings.Replace(text, "circle", "", 1),
		strings.ToUpper(text), "circle" + strings.ToUpper(text[6:]), strings.Replace(text, " 00000000", " 0", 1), strings.Replace(text, " 00000000", " +0000000", 1), strings.Replace(text, " 00000000", " 0000_000", 1),
		strings.Replace(text, " 00000000", " nan", 1), strings.Replace(text, " 00000000", " 7f800000", 1), strings.Replace(text, " 00000000", " 7fc00000", 1), strings.Replace(text, " 00000000", " 000000000", 1),
		strings.Replace(text, " ", ",", 2), text + text, text + " " + text, strings.Repeat(" ", 4), strings.Repeat(" ", 100000),
		"circle" + strings.Repeat(" 00000000", 4), "circle" + strings.Repeat(" 3f800000", 100000), impl.MapText(impl.IdentityMap()),
	}
	for _, other := range others {
		c, code := impl.ReadCircle(other)
		wantCircle(t, "ReadCircle "+other[:min(len(other), 90)], c, code, impl.Circle{}, impl.ErrSyntax)
	}
	for i := range text {
		for _, letter := range []byte{0, ' ', 'g', 'A', '-', 0xff} {
			if text[i] != letter {
				changed := text[:i] + string([]byte{letter}) + text[i+1:]
				c, code := impl.ReadCircle(changed)
				wantCircle(t, "ReadCircle "+changed, c, code, impl.Circle{}, impl.ErrSyntax)
			}
		}
		c, code := impl.ReadCircle(text[:i])
		wantCircle(t, "ReadCircle "+text[:i], c, code, impl.Circle{}, impl.ErrSyntax)
	}
}

func TestIsLine(t *testing.T) {
	random := rand.New(rand.NewSource(202))
	for _, c := range append(manyCircles(random, 500), zeroCircles()...) {
		got, code := impl.IsLine(c)
		wantBool(t, "IsLine "+circleBits(c), got, code, bitsOf(c.A)<<1 == 0, impl.OK)
	}
	for _, c := range invalidCircles() {
		got, code := impl.IsLine(c)
		wantBool(t, "IsLine of no circle", got, code, false, impl.ErrInvalid)
	}
}

func aroundForTest(centre complex64, radius float32) (impl.Circle, int64) {
	if !isFinitePoint(centre) || !isFinite(radius) || !(radius > 0) {
		return impl.Circle{}, impl.ErrRange
	}
	rest := wideMinus(widePoint(centre).squares(), wideTimes(wideOf(radius), wideOf(radius)))
	return circleOrLimit(circleOfReals([4]float32{1, minus(real(centre)), minus(imag(centre)), narrowOf(rest)}))
}

func TestCircleAround(t *testing.T) {
	random := rand.New(rand.NewSource(203))
	codes := map[int64]int{}
	for _, centre := range append(edgePoints(), randomPoints(random, 500)...) {
		for _, radius := range append(edgeParts(), 0.5, 5, 1e10, 0x1p-75, 0x1p64, randomPart(random)) {
			got, code := impl.CircleAround(centre, radius)
			want, wantCode := aroundForTest(centre, radius)
			wantCircle(t, "CircleAround "+bitsText(centre), got, code, want, wantCode)
			codes[code]++
		}
	}
	if codes[impl.OK] == 0 || codes[impl.ErrRange] == 0 || codes[impl.ErrLimit] == 0 || len(codes) != 3 {
		t.Errorf("codes: %v", codes)
	}
}

func TestCircleAroundEdges(t *testing.T) {
	z := complex(minusZero, minusZero)
	cases := []struct {
		centre complex64
		radius float32
		want   impl.Circle
		code   int64
	}{
		{0, 1, impl.Circle{A: 1, B: z, C: -1}, impl.OK},
		{z, 1, impl.Circle{A: 1, C: -1}, impl.OK},
		{3 - 4i, 5, impl.Circle{A: 1, B: -3 + 4i, C: 0}, impl.OK},
		{3 - 4i, 2, impl.Circle{A: 1, B: -3 + 4i, C: 21}, impl.OK},
		{4097 + 1i, 8.5, impl.Circle{A: 1, B: -4097 - 1i, C: 16785338}, impl.OK},     // narrow squares and sums would make 16785336
		{0x1p70, 0x1p70, impl.Circle{A: 1, B: complex(-0x1p70, minusZero)}, impl.OK}, // squares beyond narrow numbers
		{complex(greatest, 0), greatest, impl.Circle{A: 1, B: complex(minus(greatest), minusZero)}, impl.OK},
		{0, 0x1p-74, impl.Circle{A: 1, B: z, C: -0x1p-148}, impl.OK},
		{0, 0x1p-75, impl.Circle{}, impl.ErrLimit}, // C is -0
		{0, least, impl.Circle{}, impl.ErrLimit},
		{1, 0x1p-13, impl.Circle{}, impl.ErrLimit}, // C is rounded to 1
		{1, 0x1p-12, impl.Circle{A: 1, B: complex(-1, minusZero), C: 1 - 0x1p-24}, impl.OK},
		{0, 0x1p64, impl.Circle{}, impl.ErrLimit}, // C is infinite
		{0x1p64, 1, impl.Circle{}, impl.ErrLimit},
		{complex(greatest, greatest), greatest, impl.Circle{}, impl.ErrLimit},
		{0, 0, impl.Circle{}, impl.ErrRange},
		{0, minusZero, impl.Circle{}, impl.ErrRange},
		{0, -1, impl.Circle{}, impl.ErrRange},
		{0, minus(least), impl.Circle{}, impl.ErrRange},
		{0x1p64, infinite, impl.Circle{}, impl.ErrRange},
		{0, minus(infinite), impl.Circle{}, impl.ErrRange},
		{0, notNumber, impl.Circle{}, impl.ErrRange},
		{complex(infinite, 0), 1, impl.Circle{}, impl.ErrRange},
	}
	for _, c := range cases {
		got, code := impl.CircleAround(c.centre, c.radius)
		wantCircle(t, "CircleAround "+bitsText(c.centre), got, code, c.want, c.code)
	}
	for _, centre := range oddPoints() {
		got, code := impl.CircleAround(centre, 1)
		wantCircle(t, "CircleAround "+bitsText(centre), got, code, impl.Circle{}, impl.ErrRange)
	}
}

func lineForTest(p, q complex64) (impl.Circle, int64) {
	if !isFinitePoint(p) || !isFinitePoint(q) {
		return impl.Circle{}, impl.ErrRange
	}
	if p == q {
		return impl.Circle{}, impl.ErrState
	}
	z := widePoint(p)
	d := widePoint(q).minus(z)
	c := wideTwice(wideMinus(wideTimes(d.b, z.a), wideTimes(d.a, z.b)))
	return tidyCircleForTest(wideCircle{wideOf(0), wideNumber{new(big.Float).Neg(d.b), d.a}, c})
}

func TestLineThrough(t *testing.T) {
	random := rand.New(rand.NewSource(204))
	list := append(edgePoints(), randomPoints(random, 100)...)
	for _, p := range list {
		for _, q := range list {
			got, code := impl.LineThrough(p, q)
			want, wantCode := lineForTest(p, q)
			wantCircle(t, "LineThrough "+bitsText(p)+" and "+bitsText(q), got, code, want, wantCode)
		}
	}
}

func TestLineThroughEdges(t *testing.T) {
	g := complex(greatest, 0)
	cases := []struct {
		p, q complex64
		want impl.Circle
		code int64
	}{
		{0, 1, impl.Circle{B: complex(minusZero, 1)}, impl.OK},
		{1, 0, impl.Circle{B: complex(minusZero, -1)}, impl.OK},
		{0, 1i, impl.Circle{B: complex(-1, 0)}, impl.OK},
		{1 + 2i, 4 + 6i, impl.Circle{B: complex(-1, 0.75), C: -1}, impl.OK}, // -4, 3 and -4, divided by 4
		{3i, 1 + 3i, impl.Circle{B: complex(minusZero, 0.25), C: -1.5}, impl.OK},
		{1 + 0x1p-23, 1, impl.Circle{B: complex(minusZero, -1)}, impl.OK},
		{-g, g, impl.Circle{B: complex(minusZero, ofBits(0x3fffffff))}, impl.OK}, // the difference is beyond narrow numbers
		{0, complex(least, 0), impl.Circle{B: complex(minusZero, 1)}, impl.OK},
		{complex(0, 0x1p127), complex(least, 0x1p127), impl.Circle{B: complex(minusZero, 0x1p-128), C: -1}, impl.OK}, // with a subnormal part
		{0, complex(minusZero, minusZero), impl.Circle{}, impl.ErrState},
		{2i, complex(minusZero, 2), impl.Circle{}, impl.ErrState},
		{g, g, impl.Circle{}, impl.ErrState},
		{complex(infinite, 0), complex(infinite, 0), impl.Circle{}, impl.ErrRange},
		{complex(0, notNumber), complex(0, notNumber), impl.Circle{}, impl.ErrRange},
	}
	for _, c := range cases {
		got, code := impl.LineThrough(c.p, c.q)
		if got == c.want {
			c.want = got // the signs of zeros are held against math/big above
		}
		wantCircle(t, "LineThrough "+bitsText(c.p)+" and "+bitsText(c.q), got, code, c.want, c.code)
	}
	for _, odd := range oddPoints() {
		got, code := impl.LineThrough(odd, 1)
		wantCircle(t, "LineThrough "+bitsText(odd), got, code, impl.Circle{}, impl.ErrRange)
		got, code = impl.LineThrough(1, odd)
		wantCircle(t, "LineThrough 1 and "+bitsText(odd), got, code, impl.Circle{}, impl.ErrRange)
	}
}

func centreForTest(c impl.Circle) (complex64, int64) {
	if c.A == 0 {
		return 0, impl.ErrState
	}
	w := wideCircleOf(c)
	b := w.b.negated()
	centre := wideNumber{wideOver(b.a, w.a), wideOver(b.b, w.a)}.narrowed()
	if !isFinitePoint(centre) {
		return 0, impl.ErrState
	}
	return centre, impl.OK
}

func radiusForTest(c impl.Circle) (float32, int64) {
	if c.A == 0 {
		return 0, impl.ErrState
	}
	w := wideCircleOf(c)
	radius := narrowOf(wideOver(wideRoot(w.discriminant()), new(big.Float).Abs(w.a)))
	if !isFinite(radius) {
		return 0, impl.ErrState
	}
	return radius, impl.OK
}

func TestCentresAndRadii(t *testing.T) {
	random := rand.New(rand.NewSource(205))
	finite, limits := 0, 0
	for _, c := range append(manyCircles(random, 3000), zeroCircles()...) {
		centre, code := impl.CircleCentre(c)
		want, wantCode := centreForTest(c)
		wantPoint(t, "CircleCentre "+circleBits(c), centre, code, want, wantCode)
		radius, radiusCode := impl.CircleRadius(c)
		wantRadius, wantRadiusCode := radiusForTest(c)
		wantReal(t, "CircleRadius "+circleBits(c), radius, radiusCode, wantRadius, wantRadiusCode)
		if code == impl.OK && radiusCode == impl.OK {
			finite++
		} else if c.A != 0 {
			limits++
		}
	}
	if finite == 0 || limits == 0 {
		t.Errorf("%d finite circles, %d others", finite, limits)
	}
}

func TestCentreAndRadiusEdges(t *testing.T) {
	z := complex(minusZero, minusZero)
	cases := []struct {
		c          impl.Circle
		centre     complex64
		centreCode int64
		radius     float32
		radiusCode int64
	}{
		{impl.Circle{A: 1, C: -1}, z, impl.OK, 1, impl.OK},
		{impl.Circle{A: 1, B: z, C: -1}, 0, impl.OK, 1, impl.OK},
		{impl.Circle{A: -1, C: 1}, 0, impl.OK, 1, impl.OK},
		{impl.Circle{A: -2, B: 6 - 8i, C: 22}, 3 - 4i, impl.OK, 6, impl.OK},
		{impl.Circle{A: 2, B: -6 + 8i, C: -22}, 3 - 4i, impl.OK, 6, impl.OK},
		{impl.Circle{A: 3, B: 1, C: 0}, complex(float32(-1.0/3), minusZero), impl.OK, float32(1.0 / 3), impl.OK},
		{exactlyNone(), complex(-1, -0x1p-40), impl.OK, 0, impl.OK}, // a wide discriminant of 0
		{nearlyNone(), complex(-1-0x1p-23, minusZero), impl.OK, 0x1p-23, impl.OK},
		{impl.Circle{B: 1i, C: 2}, 0, impl.ErrState, 0, impl.ErrState},
		{impl.Circle{A: minusZero, B: 1i, C: 2}, 0, impl.ErrState, 0, impl.ErrState},
		{impl.Circle{A: 0x1p-127, B: 1}, complex(-0x1p127, minusZero), impl.OK, 0x1p127, impl.OK},
		{impl.Circle{A: 0x1p-128, B: 1}, 0, impl.ErrState, 0, impl.ErrState},
		{impl.Circle{A: 0x1p-128, B: 1i}, 0, impl.ErrState, 0, impl.ErrState},
		{impl.Circle{A: least, C: minus(greatest)}, complex(minusZero, minusZero), impl.OK, 0, impl.ErrState}, // only the radius overflows
		{impl.Circle{A: 0x1p-128, B: 1, C: 0x1p127}, 0, impl.ErrState, 0x1.6a09e6p127, impl.OK},               // only the centre does
		{impl.Circle{A: greatest, B: complex(least, 0), C: -0x1p-140}, z, impl.OK, 0x1p-134, impl.OK},
	}
	for _, c := range cases {
		centre, code := impl.CircleCentre(c.c)
		if centre == c.centre {
			c.centre = centre // the signs of zeros are held against math/big above
		}
		wantPoint(t, "CircleCentre "+circleBits(c.c), centre, code, c.centre, c.centreCode)
		radius, code := impl.CircleRadius(c.c)
		wantReal(t, "CircleRadius "+circleBits(c.c), radius, code, c.radius, c.radiusCode)
	}
	for _, c := range invalidCircles() {
		centre, code := impl.CircleCentre(c)
		wantPoint(t, "CircleCentre of no circle", centre, code, 0, impl.ErrInvalid)
		radius, code := impl.CircleRadius(c)
		wantReal(t, "CircleRadius of no circle", radius, code, 0, impl.ErrInvalid)
	}
}

func TestTidyCircle(t *testing.T) {
	random := rand.New(rand.NewSource(206))
	codes := map[int64]int{}
	for _, c := range append(manyCircles(random, 2000), zeroCircles()...) {
		got, code := impl.TidyCircle(c)
		want, wantCode := tidyCircleForTest(wideCircleOf(c))
		wantCircle(t, "TidyCircle "+circleBits(c), got, code, want, wantCode)
		codes[code]++
	}
	if codes[impl.OK] == 0 || codes[impl.ErrLimit] == 0 || len(codes) != 2 {
		t.Errorf("codes: %v", codes)
	}
}

func TestTidyCircleEdges(t *testing.T) {
	l := complex(least, 0)
	cases := []struct {
		c, want impl.Circle
		code    int64
	}{
		{impl.Circle{A: 4, C: -4}, impl.Circle{A: 1, C: -1}, impl.OK},
		{impl.Circle{A: 1.75, B: 1, C: -1}, impl.Circle{A: 1.75, B: 1, C: -1}, impl.OK},
		{impl.Circle{A: 1, B: 2, C: -1}, impl.Circle{A: 0.5, B: 1, C: -0.5}, impl.OK},
		{impl.Circle{A: 1, B: complex(0, -5), C: -1}, impl.Circle{A: 0.25, B: complex(0, -1.25), C: -0.25}, impl.OK},
		{impl.Circle{A: 1, B: 1, C: -3}, impl.Circle{A: 0.5, B: 0.5, C: -1.5}, impl.OK},
		{impl.Circle{A: 1.5, B: 1.5 + 1.5i}, impl.Circle{A: 1.5, B: 1.5 + 1.5i}, impl.OK}, // the parts count, not the sizes
		{impl.Circle{A: minusZero, B: complex(minusZero, 0.5), C: minusZero}, impl.Circle{A: minusZero, B: complex(minusZero, 1), C: minusZero}, impl.OK},
		{impl.Circle{A: least, B: 3 * l, C: least}, impl.Circle{A: 0.5, B: 1.5, C: 0.5}, impl.OK},
		{impl.Circle{A: greatest, B: complex(greatest, greatest), C: greatest}, circleOfReals([4]float32(repeated(ofBits(0x3fffffff), 4))), impl.OK},
		{impl.Circle{B: l, C: 1}, impl.Circle{B: l, C: 1}, impl.OK},
		{impl.Circle{B: l, C: 2}, impl.Circle{}, impl.ErrLimit}, // a tie that is rounded to 0
		{impl.Circle{B: 3 * l, C: 2}, impl.Circle{B: 2 * l, C: 1}, impl.OK},
		{impl.Circle{A: least, C: minus(greatest)}, impl.Circle{}, impl.ErrLimit},
		{impl.Circle{A: 0x1p-120, B: complex(0, 0x1p-30), C: 0x1p30}, impl.Circle{B: complex(0, 0x1p-60), C: 1}, impl.OK}, // A is rounded to 0
		{impl.Circle{A: 1, B: complex(0x1p-149, 0x1p60), C: -1}, impl.Circle{A: 0x1p-60, B: 1i, C: -0x1p-60}, impl.OK},
	}
	for _, c := range cases {
		got, code := impl.TidyCircle(c.c)
		wantCircle(t, "TidyCircle "+circleBits(c.c), got, code, c.want, c.code)
	}
	for _, c := range invalidCircles() {
		got, code := impl.TidyCircle(c)
		wantCircle(t, "TidyCircle of no circle", got, code, impl.Circle{}, impl.ErrInvalid)
	}
}

func TestOtherSide(t *testing.T) {
	random := rand.New(rand.NewSource(207))
	for _, c := range append(manyCircles(random, 500), zeroCircles()...) {
		reals := realsOfCircle(c)
		for i := range reals {
			reals[i] = minus(reals[i])
		}
		other, code := impl.OtherSide(c)
		wantCircle(t, "OtherSide "+circleBits(c), other, code, circleOfReals(reals), impl.OK)
		back, code := impl.OtherSide(other)
		wantCircle(t, "OtherSide of the other side", back, code, c, impl.OK)
	}
	for _, c := range invalidCircles() {
		other, code := impl.OtherSide(c)
		wantCircle(t, "OtherSide of no circle", other, code, impl.Circle{}, impl.ErrInvalid)
	}
}
