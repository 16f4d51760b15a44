package tests

import (
	"math"
	"math/rand"
	"testing"

	"loop.example/g01171/impl"
)

func isEqualSpot(s, u impl.Spot) bool { return s.Far == u.Far && s.At == u.At }

// throughForTest tells the map that takes three valid spots to 0, 1 and far away.
func throughForTest(a, b, c impl.Spot) (impl.Map, int64) {
	if isEqualSpot(a, b) || isEqualSpot(b, c) || isEqualSpot(a, c) {
		return impl.Map{}, impl.ErrState
	}
	x, y, z := widePoint(a.At), widePoint(b.At), widePoint(c.At)
	one := widePoint(1)
	switch {
	case a.Far:
		return tidyForTest([4]wideNumber{widePoint(0), y.minus(z), one, z.negated()})
	case b.Far:
		return tidyForTest([4]wideNumber{one, x.negated(), one, z.negated()})
	case c.Far:
		return tidyForTest([4]wideNumber{one, x.negated(), widePoint(0), y.minus(x)})
	}
	above, below := y.minus(z), y.minus(x)
	return tidyForTest([4]wideNumber{above, x.times(above).negated(), below, z.times(below).negated()})
}

func crossForTest(a, b, c, d impl.Spot) (impl.Spot, int64) {
	m, code := throughForTest(a, b, c)
	if code != impl.OK {
		return impl.Spot{}, code
	}
	return applyForTest(m, d), impl.OK
}

func TestThroughThreeAndCrossRatio(t *testing.T) {
	random := rand.New(rand.NewSource(140))
	codes, far := map[int64]int{}, 0
	for range 20000 {
		list := randomSpots(random, 4)
		if random.Intn(4) == 0 {
			list[random.Intn(4)] = list[random.Intn(4)]
		}
		a, b, c, d := list[0], list[1], list[2], list[3]
		got, code := impl.ThroughThree(a, b, c)
		want, wantCode := throughForTest(a, b, c)
		wantMap(t, "ThroughThree "+spotsText(list[:3]), got, code, want, wantCode)
		codes[code]++
		cross, code := impl.CrossRatio(a, b, c, d)
		wantCross, wantCode := crossForTest(a, b, c, d)
		wantSpot(t, "CrossRatio "+spotsText(list), cross, code, wantCross, wantCode)
		if cross.Far {
			far++
		}
	}
	if codes[impl.OK] == 0 || codes[impl.ErrState] == 0 || codes[impl.ErrLimit] == 0 || len(codes) != 3 || far == 0 {
		t.Errorf("codes %v, %d far spots", codes, far)
	}
}

func TestThroughThreeOfZeros(t *testing.T) {
	zeros := []float32{0, minusZero, 1, -1}
	list := []impl.Spot{farSpot}
	for _, a := range zeros {
		for _, b := range zeros {
			list = append(list, near(complex(a, b)))
		}
	}
	for _, a := range list {
		for _, b := range list {
			for _, c := range list {
				got, code := impl.ThroughThree(a, b, c)
				want, wantCode := throughForTest(a, b, c)
				wantMap(t, "ThroughThree "+spotsText([]impl.Spot{a, b, c}), got, code, want, wantCode)
			}
		}
	}
}

func TestThroughThreeEdges(t *testing.T) {
	g := complex(greatest, 0)
	z := complex(minusZero, minusZero)
	cases := []struct {
		a, b, c impl.Spot
		want    impl.Map
		code    int64
	}{
		{near(0), near(1), farSpot, impl.Map{A: 1, B: z, D: 1}, impl.OK},
		{near(3), near(7), farSpot, impl.Map{A: 0.25, B: complex(-0.75, minusZero), D: 1}, impl.OK},
		{farSpot, near(7), near(3), impl.Map{B: 1, C: 0.25, D: complex(-0.75, minusZero)}, impl.OK},
		{near(3), farSpot, near(-6), impl.Map{A: 0.25, B: complex(-0.75, minusZero), C: 0.25, D: complex(1.5, minusZero)}, impl.OK},
		{near(1), near(2), near(4), impl.Map{A: -0.5, B: 0.5, C: 0.25, D: -1}, impl.OK},
		{farSpot, near(g), near(-g), impl.Map{B: complex(ofBits(0x3fffffff), 0), C: 0x1p-128, D: complex(ofBits(0x3f7fffff), 0)}, impl.OK}, // the difference is beyond narrow numbers
		{near(complex(least, 0)), near(g), farSpot, impl.Map{A: 0x1p-127, B: z, D: complex(ofBits(0x3fffffff), 0)}, impl.OK},
		{near(complex(least, 0)), near(complex(2*least, 0)), farSpot, impl.Map{A: 1, B: complex(-0x1p-149, minusZero), D: 0x1p-149}, impl.OK},
		{near(complex(least, 0)), near(complex(2*least, 0)), near(complex(-least, 0)), impl.Map{A: 1.5, B: -0x1p-148, C: 0.5}, impl.OK}, // ties to even
		{near(0x1p100), near(-0x1p100), near(0x1.000002p100), impl.Map{A: -0x1p-100, B: 1, C: -0x1p-100, D: 1 + 0x1p-23}, impl.OK},
		{near(0x1p127), near(0x1.000002p127), near(0), impl.Map{}, impl.ErrLimit}, // C is rounded to 0, D is 0
		{farSpot, farSpot, near(1), impl.Map{}, impl.ErrState},
		{farSpot, near(1), farSpot, impl.Map{}, impl.ErrState},
		{near(1), farSpot, farSpot, impl.Map{}, impl.ErrState},
		{farSpot, farSpot, farSpot, impl.Map{}, impl.ErrState},
		{near(2i), near(2i), near(1), impl.Map{}, impl.ErrState},
		{near(2i), near(1), near(2i), impl.Map{}, impl.ErrState},
		{near(1), near(2i), near(2i), impl.Map{}, impl.ErrState},
		{near(0), near(z), near(2i), impl.Map{}, impl.ErrState}, // 0 and -0 are equal
		{near(0), farSpot, near(complex(0, minusZero)), impl.Map{}, impl.ErrState},
	}
	for _, c := range cases {
		got, code := impl.ThroughThree(c.a, c.b, c.c)
		if got == c.want {
			c.want = got // the signs of zeros are held against math/big above
		}
		wantMap(t, "ThroughThree "+spotsText([]impl.Spot{c.a, c.b, c.c}), got, code, c.want, c.code)
	}
}

func TestThroughThreeInvalid(t *testing.T) {
	for _, bad := range invalidSpots() {
		for at := range 4 {
			list := []impl.Spot{near(1), near(1), near(1), near(1)} // equal ones, which would be ErrState
			list[at] = bad
			cross, code := impl.CrossRatio(list[0], list[1], list[2], list[3])
			wantSpot(t, "CrossRatio "+spotsText(list), cross, code, impl.Spot{}, impl.ErrInvalid)
			if at < 3 {
				m, code := impl.ThroughThree(list[0], list[1], list[2])
				wantMap(t, "ThroughThree "+spotsText(list), m, code, impl.Map{}, impl.ErrInvalid)
			}
		}
	}
}

// Three spots are taken where they should, nearly, and their cross ratios are 0, 1 and far.
func TestThreeSpotsAreTaken(t *testing.T) {
	random := rand.New(rand.NewSource(141))
	for range 3000 {
		spot := func() impl.Spot {
			if random.Intn(5) == 0 {
				return farSpot
			}
			return near(complex(float32(random.Intn(21)-10), float32(random.Intn(21)-10)))
		}
		a, b, c := spot(), spot(), spot()
		m, code := impl.ThroughThree(a, b, c)
		if code == impl.ErrState {
			continue
		}
		toZero, _ := impl.ApplyMap(m, a)
		toOne, _ := impl.ApplyMap(m, b)
		toFar, _ := impl.ApplyMap(m, c)
		if code != impl.OK || toZero.Far || !isClose(toZero.At, 0, 1e-4) || toOne.Far || !isClose(toOne.At, 1, 1e-4) || !toFar.Far {
			t.Errorf("ThroughThree %v, %v and %v: they are taken to %v, %v and %v", a, b, c, toZero, toOne, toFar)
		}
		cross, _ := impl.CrossRatio(a, b, c, b)
		wantSpot(t, "CrossRatio of the second one", cross, 0, toOne, 0)
	}
}

// Maps do not change cross ratios.
func TestCrossRatiosStay(t *testing.T) {
	random := rand.New(rand.NewSource(142))
	for range 500 {
		m := wholeMap(random, 3)
		list := []impl.Spot{near(-3), near(1 + 2i), near(4), near(complex(float32(random.Intn(5)), -5))}
		taken, _ := impl.ApplyAll(m, list)
		before, _ := impl.CrossRatio(list[0], list[1], list[2], list[3])
		after, code := impl.CrossRatio(taken[0], taken[1], taken[2], taken[3])
		if code == impl.OK && !before.Far && !after.Far && !isClose(before.At, after.At, 1e-3) {
			t.Errorf("CrossRatio %v: got %v, and %v behind %v", list, before, after, m)
		}
	}
}

// alikeForTest tells the greatest part of a difference of two maps, both being made tidy.
func alikeForTest(m, n impl.Map) (float64, int64) {
	first, code := tidyForTest(wideParts(m))
	second, codeSecond := tidyForTest(wideParts(n))
	if code != impl.OK || codeSecond != impl.OK {
		return 0, impl.ErrLimit
	}
	v, w := wideParts(first), wideParts(second)
	most := 0.0
	for i := range v {
		for j := range v {
			difference := v[i].times(w[j]).minus(v[j].times(w[i]))
			a, _ := difference.a.Float64()
			b, _ := difference.b.Float64()
			most = math.Max(most, math.Max(math.Abs(a), math.Abs(b)))
		}
	}
	return most, impl.OK
}

func TestAreAlikeMaps(t *testing.T) {
	random := rand.New(rand.NewSource(143))
	list := manyMaps(random, 40)
	for range 20 {
		m := randomMap(random)
		list = append(list, m, impl.Map{A: 2 * m.A, B: 2 * m.B, C: 2 * m.C, D: 2 * m.D}, impl.Map{A: 1i * m.A, B: 1i * m.B, C: 1i * m.C, D: 1i * m.D})
	}
	for _, m := range list {
		for _, n := range list {
			if !isValidForTest(m) || !isValidForTest(n) {
				continue
			}
			most, wantCode := alikeForTest(m, n)
			name := "AreAlikeMaps " + mapBits(m) + " and " + mapBits(n)
			for _, bound := range []float32{0, minusZero, least, 1e-6, 0.5, 1, greatest, infinite} {
				got, code := impl.AreAlikeMaps(m, n, bound)
				wantBool(t, name, got, code, wantCode == impl.OK && most <= float64(bound), wantCode)
			}
			bound := float32(most) // may be the greatest part itself, or a number beside it
			for _, bound := range []float32{bound, impl.NextAbove(bound), impl.NextBelow(bound)} {
				if bound >= 0 {
					got, code := impl.AreAlikeMaps(m, n, bound)
					wantBool(t, name, got, code, wantCode == impl.OK && most <= float64(bound), wantCode)
				}
			}
		}
	}
}

func TestAreAlikeMapsEdges(t *testing.T) {
	one, limit := impl.Map{A: 1, D: 1}, impl.Map{A: 0x1p100, D: 0x1p-100}
	cases := []struct {
		m, n  impl.Map
		bound float32
		want  bool
		code  int64
	}{
		{one, one, 0, true, impl.OK},
		{one, one, minusZero, true, impl.OK},
		{one, impl.Map{A: -8i, D: -8i}, 0, true, impl.OK},
		{one, impl.Map{A: 1, B: 0.5, D: 1}, 0.5, true, impl.OK},
		{one, impl.Map{A: 1, B: complex(0, -0.5), D: 1}, 0.5, true, impl.OK},
		{one, impl.Map{A: 1, B: 0.5, D: 1}, 0.49999997, false, impl.OK},
		{one, impl.Map{A: 1, B: complex(0, -0.5), D: 1}, 0.49999997, false, impl.OK},
		{one, impl.Map{A: 1, C: complex(least, 0), D: 1}, least, true, impl.OK},
		{one, impl.Map{A: 1, C: complex(least, 0), D: 1}, 0, false, impl.OK},
		{one, impl.Map{A: 1, C: complex(0, least), D: 1}, 0, false, impl.OK},
		{one, impl.Map{A: 1, D: 1 + 0x1p-23}, 0x1p-24, false, impl.OK},
		{one, impl.Map{A: 1, D: 1 + 0x1p-23}, 0x1p-23, true, impl.OK},
		{impl.FlipMap(), one, 1, true, impl.OK},
		{impl.FlipMap(), one, 0.99999994, false, impl.OK},
		{one, impl.FlipMap(), infinite, true, impl.OK},
		{impl.Map{A: 1, B: 0.5, D: 1}, impl.Map{A: 1, C: 0.5, D: 1}, 0.25, false, impl.OK},
		{one, one, minus(least), false, impl.ErrRange},
		{one, one, -1, false, impl.ErrRange},
		{one, one, minus(infinite), false, impl.ErrRange},
		{one, one, notNumber, false, impl.ErrRange},
		{one, one, minus(notNumber), false, impl.ErrRange},
		{limit, one, 1, false, impl.ErrLimit},
		{one, limit, 1, false, impl.ErrLimit},
		{limit, limit, 0, false, impl.ErrLimit},
		{limit, limit, infinite, false, impl.ErrLimit},
		{limit, limit, notNumber, false, impl.ErrRange},
		{limit, one, -1, false, impl.ErrRange},
	}
	for _, c := range cases {
		got, code := impl.AreAlikeMaps(c.m, c.n, c.bound)
		wantBool(t, "AreAlikeMaps "+mapBits(c.m)+" and "+mapBits(c.n), got, code, c.want, c.code)
	}
	for _, m := range invalidMaps() {
		for _, bound := range []float32{0, -1, notNumber} {
			got, code := impl.AreAlikeMaps(m, limit, bound)
			wantBool(t, "AreAlikeMaps of no map", got, code, false, impl.ErrInvalid)
			got, code = impl.AreAlikeMaps(limit, m, bound)
			wantBool(t, "AreAlikeMaps and no map", got, code, false, impl.ErrInvalid)
		}
	}
}
