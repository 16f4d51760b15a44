package tests

import (
	"math"
	"math/big"
	"math/rand"
	"testing"

	"loop.example/g01171/impl"
)

func pairForTest(c, d impl.Circle) (float32, int64) {
	v, w := wideCircleOf(c), wideCircleOf(d)
	product := wideTimes(v.discriminant(), w.discriminant())
	if product.Sign() == 0 {
		return 0, impl.ErrState
	}
	inner := wideTwice(widePlus(wideTimes(v.b.a, w.b.a), wideTimes(v.b.b, w.b.b)))
	above := wideMinus(wideMinus(inner, wideTimes(v.a, w.c)), wideTimes(v.c, w.a))
	value := narrowOf(wideOver(above, wideTwice(wideRoot(product))))
	if !isFinite(value) {
		return 0, impl.ErrState
	}
	return value, impl.OK
}

// meetForTest tells how two circles with a pair value meet.
func meetForTest(value, bound float32) int64 {
	size := wideOf(float32(math.Abs(float64(value))))
	distance := wideMinus(size, wideOf(1))
	if math.IsInf(float64(bound), 1) || new(big.Float).Abs(distance).Cmp(wideOf(bound)) <= 0 {
		return impl.CrTouch
	}
	if size.Cmp(wideOf(1)) < 0 {
		return impl.CrCross
	}
	return impl.CrApart
}

func wantMeeting(t *testing.T, c, d impl.Circle, bound float32, want, wantCode int64) {
	t.Helper()
	got, code := impl.HowTheyMeet(c, d, bound)
	if got != want || code != wantCode {
		t.Errorf("HowTheyMeet %s and %s with %g: got %d and %s, want %d and %s", circleBits(c), circleBits(d), bound, got, impl.CodeName(code), want, impl.CodeName(wantCode))
	}
}

func TestPairValuesAndMeetings(t *testing.T) {
	random := rand.New(rand.NewSource(230))
	kinds, codes := map[int64]int{}, map[int64]int{}
	for _, list := range [][]impl.Circle{manyCircles(random, 150), zeroCircles()} {
		for _, c := range list {
			for _, d := range list {
				got, code := impl.PairValue(c, d)
				value, wantCode := pairForTest(c, d)
				wantReal(t, "PairValue "+circleBits(c)+" and "+circleBits(d), got, code, value, wantCode)
				codes[code]++
				distance := float32(math.Abs(math.Abs(float64(value)) - 1))
				for _, bound := range []float32{0, minusZero, least, 1e-6, 0.5, 1, greatest, infinite, distance, impl.NextAbove(distance), max(0, impl.NextBelow(distance))} {
					want := int64(0)
					if wantCode == impl.OK {
						want = meetForTest(value, bound)
					}
					wantMeeting(t, c, d, bound, want, wantCode)
					kinds[want]++
				}
			}
		}
	}
	if len(kinds) != 4 || codes[impl.OK] == 0 || codes[impl.ErrState] == 0 || len(codes) != 2 {
		t.Errorf("kinds %v, codes %v", kinds, codes)
	}
}

func TestPairValueEdges(t *testing.T) {
	unit, line := impl.Circle{A: 1, C: -1}, impl.Circle{B: 1i}
	cases := []struct {
		c, d impl.Circle
		want float32
		code int64
	}{
		{unit, unit, 1, impl.OK}, {unit, impl.Circle{A: -1, C: 1}, -1, impl.OK}, {line, line, 1, impl.OK}, {line, impl.Circle{B: -2i}, -1, impl.OK},
		{unit, impl.Circle{A: 1, B: -3, C: 8}, -3.5, impl.OK}, // apart
		{unit, impl.Circle{A: 1, B: -2, C: 3}, -1, impl.OK},   // touching from outside
		{unit, impl.Circle{A: 2, B: -1}, 1, impl.OK},          // touching from inside
		{unit, impl.Circle{A: 1, C: -4}, 1.25, impl.OK},       // inside
		{unit, impl.Circle{A: 1, B: -1, C: -1}, 0.70710677, impl.OK}, {unit, line, 0, impl.OK}, {line, unit, 0, impl.OK}, {unit, impl.Circle{B: 1, C: -2}, 1, impl.OK}, {unit, impl.Circle{B: 1, C: 2}, -1, impl.OK},
		{line, impl.Circle{B: 1}, 0, impl.OK}, {line, impl.Circle{B: 3 + 4i}, 0.8, impl.OK}, {line, impl.Circle{B: 1i, C: -8}, 1, impl.OK},
		{exactlyNone(), unit, 0, impl.ErrState}, {unit, exactlyNone(), 0, impl.ErrState}, {exactlyNone(), exactlyNone(), 0, impl.ErrState}, // wide discriminants of 0
		{nearlyNone(), nearlyNone(), 1, impl.OK}, {nearlyNone(), unit, -1, impl.OK},
		{impl.Circle{A: least, C: minus(least)}, impl.Circle{A: greatest, C: minus(greatest)}, 1, impl.OK}, {impl.Circle{A: least, B: complex(least, 0)}, impl.Circle{A: least, B: complex(0, least)}, 0, impl.OK},
		{impl.Circle{A: 1, C: minus(least)}, impl.Circle{A: least, C: -1}, 0, impl.ErrState},    // the value overflows
		{impl.Circle{A: 1, B: 3, C: 7}, impl.Circle{B: 1 + 1i, C: -16777213}, 4194305, impl.OK}, // a tie, if the root of the product of 2 and 2 is 2
	}
	for _, c := range cases {
		got, code := impl.PairValue(c.c, c.d)
		if got == c.want {
			c.want = got // the signs of zeros are held against math/big above
		}
		wantReal(t, "PairValue "+circleBits(c.c)+" and "+circleBits(c.d), got, code, c.want, c.code)
	}
}

func TestHowTheyMeetEdges(t *testing.T) {
	unit := impl.Circle{A: 1, C: -1}
	apart, inside, crossing := impl.Circle{A: 1, B: -3, C: 8}, impl.Circle{A: 1, C: -4}, impl.Circle{A: 1, B: -1, C: -1}
	cases := []struct {
		c, d       impl.Circle
		bound      float32
		kind, code int64
	}{
		{unit, unit, 0, impl.CrTouch, impl.OK}, {unit, impl.Circle{A: -1, C: 1}, 0, impl.CrTouch, impl.OK}, {unit, impl.Circle{A: 1, B: -2, C: 3}, minusZero, impl.CrTouch, impl.OK},
		{unit, apart, 2.5, impl.CrTouch, impl.OK}, {unit, apart, 2.4999998, impl.CrApart, impl.OK}, {unit, apart, 0, impl.CrApart, impl.OK}, {unit, apart, infinite, impl.CrTouch, impl.OK},
		{unit, inside, 0, impl.CrApart, impl.OK}, {unit, inside, 0.25, impl.CrTouch, impl.OK}, {unit, crossing, 0, impl.CrCross, impl.OK}, {unit, crossing, 0.25, impl.CrCross, impl.OK}, {unit, crossing, 0.3, impl.CrTouch, impl.OK},
		{unit, impl.Circle{B: 1}, 0.99999994, impl.CrCross, impl.OK}, {unit, impl.Circle{B: 1}, 1, impl.CrTouch, impl.OK},
		{unit, apart, minus(least), 0, impl.ErrRange}, {unit, apart, -1, 0, impl.ErrRange}, {unit, apart, minus(infinite), 0, impl.ErrRange}, {unit, apart, notNumber, 0, impl.ErrRange}, {unit, apart, minus(notNumber), 0, impl.ErrRange},
		{unit, exactlyNone(), infinite, 0, impl.ErrState}, {exactlyNone(), unit, 0, 0, impl.ErrState}, {unit, exactlyNone(), -1, 0, impl.ErrRange}, {exactlyNone(), unit, notNumber, 0, impl.ErrRange},
	}
	for _, c := range cases {
		wantMeeting(t, c.c, c.d, c.bound, c.kind, c.code)
	}
}

func TestPairsWithNoCircle(t *testing.T) {
	unit, line := impl.Circle{A: 1, C: -1}, impl.Circle{B: 1i}
	check := func(c, d impl.Circle) {
		value, code := impl.PairValue(c, d)
		wantReal(t, "PairValue of no circle", value, code, 0, impl.ErrInvalid)
		for _, bound := range []float32{0, -1, notNumber} {
			wantMeeting(t, c, d, bound, 0, impl.ErrInvalid)
			isAlike, code := impl.AreAlikeCircles(c, d, bound)
			wantBool(t, "AreAlikeCircles of no circle", isAlike, code, false, impl.ErrInvalid)
		}
		isInside, code := impl.IsInside(c, d)
		wantBool(t, "IsInside of no circle", isInside, code, false, impl.ErrInvalid)
		m, code := impl.PairingMap(c, d)
		wantMap(t, "PairingMap of no circle", m, code, impl.Map{}, impl.ErrInvalid)
	}
	for _, bad := range invalidCircles() {
		for _, good := range []impl.Circle{unit, line, exactlyNone(), bad} {
			check(bad, good)
			check(good, bad)
		}
	}
}

// Two circles with centres and radii meet as the distance of the centres tells.
func TestCirclesMeetAsTheirDistancesTell(t *testing.T) {
	random := rand.New(rand.NewSource(231))
	kinds := map[int64]int{}
	for range 5000 {
		p, q := complex(float32(random.Intn(13)-6), float32(random.Intn(13)-6)), complex(float32(random.Intn(13)-6), float32(random.Intn(13)-6))
		r, s := random.Intn(6)+1, random.Intn(6)+1
		c, d := around(t, p, float32(r)), around(t, q, float32(s))
		x := q - p
		square := int(real(x)*real(x) + imag(x)*imag(x))
		want := int64(impl.CrCross)
		switch {
		case square == (r+s)*(r+s) || square == (r-s)*(r-s):
			want = impl.CrTouch
		case square > (r+s)*(r+s) || square < (r-s)*(r-s):
			want = impl.CrApart
		}
		wantMeeting(t, c, d, 0, want, impl.OK)
		kinds[want]++
		value, _ := impl.PairValue(c, d)
		wantReal(t, "PairValue", value, 0, float32(float64(r*r+s*s-square)/float64(2*r*s)), 0)
		isInside, code := impl.IsInside(c, d)
		wantBool(t, "IsInside "+circleBits(c)+" and "+circleBits(d), isInside, code, s >= r && square <= (s-r)*(s-r), impl.OK)
	}
	if len(kinds) != 3 {
		t.Errorf("kinds: %v", kinds)
	}
}

// Maps do not change pair values.
func TestPairValuesStay(t *testing.T) {
	random := rand.New(rand.NewSource(232))
	for range 2000 {
		m, c, d := wholeMap(random, 2), wholeCircle(random, 3), wholeCircle(random, 3)
		before, _ := impl.PairValue(c, d)
		back, _ := impl.PairValue(d, c)
		wantReal(t, "PairValue of exchanged circles", back, 0, before, 0)
		c, _ = impl.ImageCircle(m, c)
		d, _ = impl.ImageCircle(m, d)
		after, code := impl.PairValue(c, d)
		if code != impl.OK || math.Abs(float64(after-before)) > 1e-3*(1+math.Abs(float64(before))) {
			t.Errorf("PairValue: got %g before %v, and %g behind", before, m, after)
		}
	}
}

// discForTest tells centre and radius; false if it has none, or they are not finite.
func discForTest(c impl.Circle) (complex64, float32, bool) {
	centre, code := centreForTest(c)
	radius, radiusCode := radiusForTest(c)
	return centre, radius, code == impl.OK && radiusCode == impl.OK
}

func insideForTest(c, d impl.Circle) (bool, int64) {
	p, r, hasFirst := discForTest(c)
	q, s, hasSecond := discForTest(d)
	if !hasFirst || !hasSecond {
		return false, impl.ErrState
	}
	distance := root(squaredDistance(p, q))
	return isFinite(distance) && widePlus(wideOf(distance), wideOf(r)).Cmp(wideOf(s)) <= 0, impl.OK
}

func pairingForTest(c, d impl.Circle) (impl.Map, int64) {
	first, r, hasFirst := discForTest(c)
	second, s, hasSecond := discForTest(d)
	if !hasFirst || !hasSecond {
		return impl.Map{}, impl.ErrState
	}
	p, q := widePoint(first), widePoint(second)
	f := wideNumber{wideTimes(wideOf(r), wideOf(s)), wideOf(0)}
	return tidyForTest([4]wideNumber{q, f.minus(q.times(p)), widePoint(1), p.negated()})
}

func TestIsInsideAndPairingMap(t *testing.T) {
	random := rand.New(rand.NewSource(233))
	codes, insides := map[int64]int{}, 0
	for _, list := range [][]impl.Circle{manyCircles(random, 200), zeroCircles()} {
		for _, c := range list {
			for _, d := range list {
				isInside, code := impl.IsInside(c, d)
				want, wantCode := insideForTest(c, d)
				wantBool(t, "IsInside "+circleBits(c)+" and "+circleBits(d), isInside, code, want, wantCode)
				if isInside {
					insides++
				}
				m, code := impl.PairingMap(c, d)
				wantM, wantCode := pairingForTest(c, d)
				wantMap(t, "PairingMap "+circleBits(c)+" and "+circleBits(d), m, code, wantM, wantCode)
				codes[code]++
			}
		}
	}
	if insides == 0 || codes[impl.OK] == 0 || codes[impl.ErrState] == 0 || codes[impl.ErrLimit] == 0 || len(codes) != 3 {
		t.Errorf("%d discs inside others, codes %v", insides, codes)
	}
}

func TestIsInsideEdges(t *testing.T) {
	unit, line := impl.Circle{A: 1, C: -1}, impl.Circle{B: 1i}
	endless, beyond := impl.Circle{A: least, C: minus(greatest)}, impl.Circle{A: 0x1p-128, B: 1, C: 0x1p127}
	cases := []struct {
		c, d impl.Circle
		want bool
		code int64
	}{
		{unit, unit, true, impl.OK}, {unit, impl.Circle{A: -1, C: 1}, true, impl.OK}, {impl.Circle{A: -1, C: 1}, unit, true, impl.OK}, // sides do not matter
		{impl.Circle{A: 2, B: -1}, unit, true, impl.OK}, {unit, impl.Circle{A: 2, B: -1}, false, impl.OK}, // touching from inside
		{impl.Circle{A: 1, B: -2, C: 3}, unit, false, impl.OK}, {impl.Circle{A: 1, B: -3, C: 8}, unit, false, impl.OK}, {impl.Circle{A: 1, B: -1, C: -1}, unit, false, impl.OK},
		{unit, impl.Circle{A: 1, C: -4}, true, impl.OK}, {impl.Circle{A: 1, C: -4}, unit, false, impl.OK}, {exactlyNone(), impl.Circle{A: 1, C: -4}, true, impl.OK},
		{impl.Circle{A: 1, B: 0x1p-30, C: -1}, unit, false, impl.OK},                                                          // the wide sum is greater than 1
		{impl.Circle{A: 0x1p-120, B: complex(0x1p7, 0x1p7)}, impl.Circle{A: 0x1p-120, B: complex(-0x1p7, 0)}, false, impl.OK}, // a distance that overflows
		{unit, line, false, impl.ErrState}, {line, unit, false, impl.ErrState}, {unit, impl.Circle{A: minusZero, B: 1i}, false, impl.ErrState}, {line, line, false, impl.ErrState},
		{unit, endless, false, impl.ErrState}, {endless, unit, false, impl.ErrState}, {unit, beyond, false, impl.ErrState}, {beyond, unit, false, impl.ErrState},
	}
	for _, c := range cases {
		got, code := impl.IsInside(c.c, c.d)
		wantBool(t, "IsInside "+circleBits(c.c)+" and "+circleBits(c.d), got, code, c.want, c.code)
		if c.code != impl.OK {
			m, code := impl.PairingMap(c.c, c.d)
			wantMap(t, "PairingMap "+circleBits(c.c)+" and "+circleBits(c.d), m, code, impl.Map{}, c.code)
		}
	}
}

func TestPairingMapEdges(t *testing.T) {
	unit := impl.Circle{A: 1, C: -1}
	cases := []struct {
		c, d impl.Circle
		want impl.Map
		code int64
	}{
		{unit, unit, impl.FlipMap(), impl.OK},
		{impl.Circle{A: 1, B: -2}, impl.Circle{A: 1, B: -2, C: 3.75}, impl.Map{A: 1, B: -1.5, C: 0.5, D: -1}, impl.OK},
		{unit, impl.Circle{A: -1, B: 3i, C: -8}, impl.Map{A: 1.5i, B: 0.5, C: 0.5}, impl.OK},
		{impl.Circle{A: 1, B: -3i, C: 8}, unit, impl.Map{B: 0.5, C: 0.5, D: -1.5i}, impl.OK},
		{unit, impl.Circle{A: 1, C: -4096}, impl.Map{B: 1, C: 0x1p-6}, impl.OK},
		{unit, exactlyNone(), impl.Map{}, impl.ErrLimit}, // the product of the radii is 0
		{impl.Circle{A: 1, B: 0x1p20, C: -1}, impl.Circle{A: 1, C: -0x1p-140}, impl.Map{A: complex(minusZero, 0), B: 0x1p-70, C: 0x1p-20, D: 1}, impl.OK},
		{nearlyNone(), impl.Circle{A: 1, B: -1, C: 1 - 0x1p-24}, impl.Map{}, impl.ErrLimit}, // this product is lost
	}
	for _, c := range cases {
		got, code := impl.PairingMap(c.c, c.d)
		if got == c.want {
			c.want = got // the signs of zeros are held against math/big above
		}
		wantMap(t, "PairingMap "+circleBits(c.c)+" and "+circleBits(c.d), got, code, c.want, c.code)
	}
}

// A pairing takes its first circle to the second one, and what is outside of the one to what is inside of the other.
func TestPairingsTakeCirclesWhereTheyShould(t *testing.T) {
	random := rand.New(rand.NewSource(234))
	for range 2000 {
		p, q := complex(float32(random.Intn(13)-6), float32(random.Intn(13)-6)), complex(float32(random.Intn(13)-6), float32(random.Intn(13)-6))
		c, d := around(t, p, float32(random.Intn(5)+1)), around(t, q, float32(random.Intn(5)+1))
		m, code := impl.PairingMap(c, d)
		image, imageCode := impl.ImageCircle(m, c)
		isAlike, _ := impl.AreAlikeCircles(image, d, 1e-3)
		if code != impl.OK || imageCode != impl.OK || !isAlike {
			t.Errorf("PairingMap %v and %v: got %v, which takes the first one to %v", c, d, m, image)
		}
		far, _ := impl.ApplyMap(m, farSpot)
		if far.Far || !isClose(far.At, q, 1e-4) {
			t.Errorf("PairingMap %v and %v takes the far spot to %v", c, d, far)
		}
		s := near(complex(float32(random.Intn(41)-20), float32(random.Intn(41)-20)))
		before, _ := impl.SideOf(c, s)
		taken, _ := impl.ApplyMap(m, s)
		if after := sideNear(d, taken); after != 0 {
			wantNumber(t, "side behind a pairing", after, -before)
		}
	}
}

// alikeCirclesForTest tells the greatest difference of two circles, both being made tidy.
func alikeCirclesForTest(c, d impl.Circle) (float64, int64) {
	first, code := tidyCircleForTest(wideCircleOf(c))
	second, codeSecond := tidyCircleForTest(wideCircleOf(d))
	if code != impl.OK || codeSecond != impl.OK {
		return 0, impl.ErrLimit
	}
	v, w := realsOfCircle(first), realsOfCircle(second)
	most := 0.0
	for i := range v {
		for j := range v {
			difference := wideMinus(wideTimes(wideOf(v[i]), wideOf(w[j])), wideTimes(wideOf(v[j]), wideOf(w[i])))
			size, _ := difference.Float64()
			most = math.Max(most, math.Abs(size))
		}
	}
	return most, impl.OK
}

func TestAreAlikeCircles(t *testing.T) {
	random := rand.New(rand.NewSource(235))
	list := manyCircles(random, 40)
	for range 20 {
		c := randomCircle(random)
		for _, times := range []float32{1, 2, -4, 3} {
			if made := (impl.Circle{A: times * c.A, B: complex(times, 0) * c.B, C: times * c.C}); isValidCircleForTest(made) {
				list = append(list, made)
			}
		}
	}
	for _, c := range list {
		for _, d := range list {
			most, wantCode := alikeCirclesForTest(c, d)
			nearest := float32(most) // may be the greatest difference itself, or a number beside it
			for _, bound := range []float32{0, minusZero, least, 1e-6, 0.5, 1, greatest, infinite, nearest, impl.NextAbove(nearest), max(0, impl.NextBelow(nearest))} {
				got, code := impl.AreAlikeCircles(c, d, bound)
				wantBool(t, "AreAlikeCircles "+circleBits(c)+" and "+circleBits(d), got, code, wantCode == impl.OK && most <= float64(bound), wantCode)
			}
		}
	}
}

func TestAreAlikeCirclesEdges(t *testing.T) {
	unit, line, limit := impl.Circle{A: 1, C: -1}, impl.Circle{B: 1i}, impl.Circle{A: least, C: minus(greatest)}
	cases := []struct {
		c, d  impl.Circle
		bound float32
		want  bool
		code  int64
	}{
		{unit, unit, 0, true, impl.OK}, {unit, unit, minusZero, true, impl.OK}, {unit, impl.Circle{A: -8, C: 8}, 0, true, impl.OK}, {line, impl.Circle{A: minusZero, B: -2i}, 0, true, impl.OK},
		{unit, impl.Circle{A: 1, B: 0.5, C: -1}, 0.5, true, impl.OK}, {unit, impl.Circle{A: 1, B: 0.5, C: -1}, 0.49999997, false, impl.OK},
		{unit, impl.Circle{A: 1, B: -0.5i, C: -1}, 0.5, true, impl.OK}, {unit, impl.Circle{A: 1, B: -0.5i, C: -1}, 0.49999997, false, impl.OK},
		{unit, impl.Circle{A: 1, B: complex(least, 0), C: -1}, 0, false, impl.OK}, {unit, impl.Circle{A: 1, B: complex(0, least), C: -1}, 0, false, impl.OK}, {unit, impl.Circle{A: 1, B: complex(0, least), C: -1}, least, true, impl.OK},
		{unit, impl.Circle{A: 1, C: -1 - 0x1p-23}, 0x1p-24, false, impl.OK}, {unit, impl.Circle{A: 1, C: -1 - 0x1p-23}, 0x1p-23, true, impl.OK},
		{line, impl.Circle{B: 1}, 1, true, impl.OK}, {line, impl.Circle{B: 1}, 0.99999994, false, impl.OK}, {line, unit, infinite, true, impl.OK}, {impl.Circle{B: 1 + 1i}, impl.Circle{B: 1 - 1i}, 1, false, impl.OK},
		{unit, unit, minus(least), false, impl.ErrRange}, {unit, unit, -1, false, impl.ErrRange}, {unit, unit, minus(infinite), false, impl.ErrRange}, {unit, unit, notNumber, false, impl.ErrRange}, {unit, unit, minus(notNumber), false, impl.ErrRange},
		{limit, unit, 1, false, impl.ErrLimit}, {unit, limit, infinite, false, impl.ErrLimit}, {limit, limit, 0, false, impl.ErrLimit}, {limit, unit, -1, false, impl.ErrRange}, {unit, limit, notNumber, false, impl.ErrRange},
	}
	for _, c := range cases {
		got, code := impl.AreAlikeCircles(c.c, c.d, c.bound)
		wantBool(t, "AreAlikeCircles "+circleBits(c.c)+" and "+circleBits(c.d), got, code, c.want, c.code)
	}
}
