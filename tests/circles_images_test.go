package tests

import (
	"math"
	"math/big"
	"math/rand"
	"testing"

	"loop.example/g01171/impl"
)

// imageForTest tells the circle to which a valid map takes a valid circle.
func imageForTest(m impl.Map, c impl.Circle) (impl.Circle, int64) {
	parts, w := wideParts(m), wideCircleOf(c)
	p, q, r, s := parts[3], parts[1].negated(), parts[2].negated(), parts[0]
	ends := func(x, y wideNumber) *big.Float {
		inner := x.conjugate().times(w.b).times(y).a
		return widePlus(widePlus(wideTimes(w.a, x.squares()), wideTwice(inner)), wideTimes(w.c, y.squares()))
	}
	b := p.conjugate().times(q).scaled(w.a)
	b = b.plus(p.conjugate().times(w.b).times(s))
	b = b.plus(r.conjugate().times(w.b.conjugate()).times(q))
	b = b.plus(r.conjugate().times(s).scaled(w.c))
	return tidyCircleForTest(wideCircle{ends(p, r), b, ends(q, s)})
}

func TestImageCircle(t *testing.T) {
	random := rand.New(rand.NewSource(220))
	circles, codes := manyCircles(random, 150), map[int64]int{}
	check := func(m impl.Map, c impl.Circle) {
		got, code := impl.ImageCircle(m, c)
		want, wantCode := imageForTest(m, c)
		wantCircle(t, "ImageCircle "+mapBits(m)+" and "+circleBits(c), got, code, want, wantCode)
		codes[code]++
	}
	for _, m := range manyMaps(random, 100) {
		for _, c := range circles {
			check(m, c)
		}
	}
	for _, m := range zeroMaps(random, 100) {
		for _, c := range zeroCircles() {
			check(m, c)
		}
	}
	if codes[impl.OK] == 0 || codes[impl.ErrLimit] == 0 || len(codes) != 2 {
		t.Errorf("codes: %v", codes)
	}
}

func TestImageCircleEdges(t *testing.T) {
	unit, line := impl.Circle{A: 1, C: -1}, impl.Circle{B: 1i}
	cases := []struct {
		m    impl.Map
		c    impl.Circle
		want impl.Circle
		code int64
	}{
		{impl.Map{A: 1, B: 1, D: 1}, unit, impl.Circle{A: 1, B: -1}, impl.OK},
		{impl.Map{A: 1, B: 2 + 1i, D: 1}, unit, impl.Circle{A: 0.25, B: -0.5 - 0.25i, C: 1}, impl.OK},
		{impl.Map{A: 2i, D: 1}, unit, impl.Circle{A: 0.25, C: -1}, impl.OK},
		{impl.FlipMap(), unit, impl.Circle{A: -1, C: 1}, impl.OK}, // what is outside comes inside
		{impl.FlipMap(), line, impl.Circle{B: -1i}, impl.OK},
		{impl.FlipMap(), impl.Circle{B: 1, C: -2}, impl.Circle{A: -1, B: 0.5}, impl.OK},              // a line becomes a circle
		{impl.FlipMap(), impl.Circle{A: 1, B: -1}, impl.Circle{B: -1, C: 1}, impl.OK},                // and a circle a line
		{impl.Map{A: 1, B: -1, C: 1, D: 1}, impl.Circle{B: 1}, impl.Circle{A: -1, C: 1}, impl.OK},    // the right half is taken to the unit disc
		{impl.Map{A: 1, B: -1i, C: 1, D: 1i}, impl.Circle{B: 1i}, impl.Circle{A: -1, C: 1}, impl.OK}, // the upper half as well
		{impl.Map{A: complex(greatest, 0), D: complex(greatest, 0)}, unit, impl.Circle{A: ofBits(0x3ffffffe), C: ofBits(0xbffffffe)}, impl.OK},
		{impl.Map{A: complex(least, 0), D: complex(least, 0)}, impl.Circle{A: least, C: minus(least)}, impl.Circle{A: 1, C: -1}, impl.OK},
		{impl.Map{A: 0x1p74, D: 1}, unit, impl.Circle{A: 0x1p-148, C: -1}, impl.OK},
		{impl.Map{A: 0x1p75, D: 1}, unit, impl.Circle{}, impl.ErrLimit}, // A is rounded to 0
		{impl.Map{A: 1, B: 0x1p12, D: 1}, unit, impl.Circle{A: 0x1p-23, B: -0x1p-11, C: 2 - 0x1p-23}, impl.OK},
		{impl.Map{A: 1, B: 0x1p13, D: 1}, unit, impl.Circle{}, impl.ErrLimit}, // nothing is left of the radius
		{impl.Map{A: 1, B: 0x1p24, D: 1}, line, line, impl.OK},
	}
	for _, c := range cases {
		got, code := impl.ImageCircle(c.m, c.c)
		if got == c.want {
			c.want = got // the signs of zeros are held against math/big above
		}
		wantCircle(t, "ImageCircle "+mapBits(c.m)+" and "+circleBits(c.c), got, code, c.want, c.code)
	}
}

func TestImagesOfNothing(t *testing.T) {
	flip, unit := impl.FlipMap(), impl.Circle{A: 1, C: -1}
	check := func(m impl.Map, c impl.Circle) {
		got, code := impl.ImageCircle(m, c)
		wantCircle(t, "ImageCircle of nothing", got, code, impl.Circle{}, impl.ErrInvalid)
		for _, n := range []int64{0, 1, -1, 21} {
			list, code := impl.ImagesOf(m, c, n)
			wantCircles(t, "ImagesOf nothing", list, code, nil, impl.ErrInvalid)
		}
	}
	for _, m := range invalidMaps() {
		check(m, unit)
	}
	for _, c := range invalidCircles() {
		check(flip, c)
		check(impl.Map{}, c)
		got, code := impl.MirrorCircle(c, unit)
		wantCircle(t, "MirrorCircle of no circle", got, code, impl.Circle{}, impl.ErrInvalid)
		got, code = impl.MirrorCircle(unit, c)
		wantCircle(t, "MirrorCircle by no circle", got, code, impl.Circle{}, impl.ErrInvalid)
	}
}

func imagesForTest(m impl.Map, c impl.Circle, n int64) ([]impl.Circle, int64) {
	next, code := tidyCircleForTest(wideCircleOf(c))
	list := []impl.Circle{next}
	for range n {
		if code == impl.OK {
			next, code = imageForTest(m, next)
			list = append(list, next)
		}
	}
	if code != impl.OK {
		return nil, code
	}
	return list, impl.OK
}

func TestImagesOf(t *testing.T) {
	random := rand.New(rand.NewSource(221))
	codes := map[int64]int{}
	for range 1500 {
		m, c, n := randomMap(random), randomCircle(random), int64(random.Intn(impl.MaxPower+1))
		if random.Intn(3) == 0 {
			m, c = wholeMap(random, 2), wholeCircle(random, 3)
		}
		got, code := impl.ImagesOf(m, c, n)
		want, wantCode := imagesForTest(m, c, n)
		wantCircles(t, "ImagesOf "+mapBits(m)+" and "+circleBits(c), got, code, want, wantCode)
		codes[code]++
	}
	if codes[impl.OK] == 0 || codes[impl.ErrLimit] == 0 || len(codes) != 2 {
		t.Errorf("codes: %v", codes)
	}
}

func TestImagesOfEdges(t *testing.T) {
	shift, great := impl.Map{A: 1, B: 1, D: 1}, impl.Map{A: 0x1p40, D: 1}
	unit, limit := impl.Circle{A: 4, C: -4}, impl.Circle{A: least, C: minus(greatest)}
	cases := []struct {
		m      impl.Map
		c      impl.Circle
		n      int64
		length int
		code   int64
	}{
		{shift, unit, 0, 1, impl.OK}, {shift, unit, 1, 2, impl.OK}, {shift, unit, 20, 21, impl.OK},
		{shift, unit, 21, 0, impl.ErrRange}, {shift, unit, -1, 0, impl.ErrRange}, {shift, unit, math.MaxInt64, 0, impl.ErrRange}, {shift, unit, math.MinInt64, 0, impl.ErrRange}, {shift, unit, 1 << 32, 0, impl.ErrRange},
		{shift, limit, 0, 0, impl.ErrLimit}, {shift, limit, 5, 0, impl.ErrLimit}, {shift, limit, 21, 0, impl.ErrRange},
		{great, unit, 1, 2, impl.OK}, {great, unit, 2, 0, impl.ErrLimit}, {great, unit, 20, 0, impl.ErrLimit}, // the second image has no A
	}
	for _, c := range cases {
		list, code := impl.ImagesOf(c.m, c.c, c.n)
		wantNumber(t, "code of ImagesOf", code, c.code)
		wantNumber(t, "circles of ImagesOf", int64(len(list)), int64(c.length))
	}
	list, code := impl.ImagesOf(shift, unit, 2)
	want := []impl.Circle{{A: 1, C: -1}, {A: 1, B: -1}, {A: 0.5, B: -1, C: 1.5}}
	for i := range min(len(list), len(want)) {
		if list[i] == want[i] {
			want[i] = list[i] // the signs of zeros are held against math/big above
		}
	}
	wantCircles(t, "ImagesOf", list, code, want, impl.OK)
}

func mirrorCircleForTest(c, by impl.Circle) (impl.Circle, int64) {
	r, d := realsOfCircle(by), realsOfCircle(c)
	m := mapOfReals([8]float32{minus(r[1]), minus(r[2]), minus(r[3]), 0, r[0], 0, r[1], minus(r[2])})
	if !isValidForTest(m) {
		return impl.Circle{}, impl.ErrLimit
	}
	return imageForTest(m, circleOfReals([4]float32{d[0], d[1], minus(d[2]), d[3]}))
}

func TestMirrorCircle(t *testing.T) {
	random := rand.New(rand.NewSource(222))
	codes := map[int64]int{}
	for _, list := range [][]impl.Circle{manyCircles(random, 80), zeroCircles()} {
		for _, c := range list {
			for _, by := range list {
				got, code := impl.MirrorCircle(c, by)
				want, wantCode := mirrorCircleForTest(c, by)
				wantCircle(t, "MirrorCircle "+circleBits(c)+" by "+circleBits(by), got, code, want, wantCode)
				codes[code]++
			}
		}
	}
	if codes[impl.OK] == 0 || codes[impl.ErrLimit] == 0 || len(codes) != 2 {
		t.Errorf("codes: %v", codes)
	}
}

func TestMirrorCircleEdges(t *testing.T) {
	unit, line := impl.Circle{A: 1, C: -1}, impl.Circle{B: 1i}
	cases := []struct{ c, by, want impl.Circle }{
		{impl.Circle{A: 1, B: -3i, C: 5}, line, impl.Circle{A: 0.25, B: 0.75i, C: 1.25}}, // a circle around 3i, and one around -3i
		{impl.Circle{A: 1, B: -3, C: 5}, unit, impl.Circle{A: 1.25, B: -0.75, C: 0.25}},
		{unit, unit, impl.Circle{A: -1, C: 1}}, // what is inside comes outside
		{line, line, impl.Circle{B: -1i}},
		{line, unit, line}, // a line through the centre
		{impl.Circle{B: 1, C: -2}, unit, impl.Circle{A: -1, B: 0.5}},
		{impl.Circle{A: 1, B: -1}, unit, impl.Circle{B: -1, C: 1}},
		{impl.Circle{A: 1, B: -1}, impl.Circle{B: 1, C: 2}, impl.Circle{A: 0.125, B: 0.375, C: 1}}, // around 1 with the radius 1, and around -3
	}
	for _, c := range cases {
		got, code := impl.MirrorCircle(c.c, c.by)
		if isAlike, _ := impl.AreAlikeCircles(got, c.want, 0); !isAlike || code != impl.OK || got.A*c.want.A < 0 || got.C*c.want.C < 0 {
			t.Errorf("MirrorCircle %v by %v: got %v and %d, want %v", c.c, c.by, got, code, c.want)
		}
	}
}

// sideNear tells the side of a spot, and 0 if its value is nearly 0, as measured by the sizes of all terms.
func sideNear(c impl.Circle, s impl.Spot) int64 {
	value, _ := valueForTest(c, s).Float64()
	size := 1 + math.Pow(float64(impl.SizeOf(s.At)), 2)
	if s.Far {
		size = 1
	}
	if math.Abs(value) < 1e-4*size {
		return 0
	}
	side, _ := impl.SideOf(c, s)
	return side
}

// Images of circles go through the images of their spots, and have those of other spots at the same sides.
func TestImagesHaveTheSpotsOfCircles(t *testing.T) {
	random := rand.New(rand.NewSource(223))
	on, off := 0, 0
	for range 3000 {
		m, c := wholeMap(random, 3), wholeCircle(random, 4)
		s, code := impl.SpotOn(c, []complex64{1, -1, 1i, -1i, 0.6 + 0.8i}[random.Intn(5)])
		image, imageCode := impl.ImageCircle(m, c)
		taken, _ := impl.ApplyMap(m, s)
		if code != impl.OK || imageCode != impl.OK {
			t.Fatalf("%v and %v: codes %d and %d", m, c, code, imageCode)
		}
		if side := sideNear(image, taken); side != 0 {
			t.Errorf("%v takes %v of %v to %v, which is on the side %d of %v", m, s, c, taken, side, image)
		}
		on++
		other := near(complex(float32(random.Intn(25)-12)/2, float32(random.Intn(25)-12)/2))
		before, _ := impl.SideOf(c, other)
		taken, _ = impl.ApplyMap(m, other)
		if after := sideNear(image, taken); after != 0 {
			wantNumber(t, "side of an image", after, before)
			off++
		}
	}
	if on == 0 || off < 1000 {
		t.Errorf("%d spots on circles, %d others", on, off)
	}
}

// The circle opposite to a circle has the mirror images of its spots, and is taken back.
func TestMirrorCirclesHaveTheMirrorImages(t *testing.T) {
	random := rand.New(rand.NewSource(224))
	off := 0
	for range 2000 {
		c, by := wholeCircle(random, 4), wholeCircle(random, 4)
		opposite, code := impl.MirrorCircle(c, by)
		s, _ := impl.SpotOn(c, []complex64{1, -1, 1i, -1i, -0.6 + 0.8i}[random.Intn(5)])
		mirrored, _ := impl.MirrorIn(by, s)
		if side := sideNear(opposite, mirrored); side != 0 || code != impl.OK {
			t.Errorf("MirrorCircle %v by %v: got %v and %d; %v is taken to %v", c, by, opposite, code, s, mirrored)
		}
		other := near(complex(float32(random.Intn(25)-12)/2, float32(random.Intn(25)-12)/2))
		before, _ := impl.SideOf(c, other)
		mirrored, _ = impl.MirrorIn(by, other)
		if after := sideNear(opposite, mirrored); after != 0 {
			wantNumber(t, "side of a mirror image", after, before)
			off++
		}
		back, code := impl.MirrorCircle(opposite, by)
		isAlike, alikeCode := impl.AreAlikeCircles(back, c, 1e-4)
		wantBool(t, "MirrorCircle there and back", isAlike && code == impl.OK, alikeCode, true, impl.OK)
	}
	if off < 500 {
		t.Errorf("only %d sides", off)
	}
}

// Images under what is composed are images of images.
func TestImagesAreComposed(t *testing.T) {
	random := rand.New(rand.NewSource(225))
	for range 1000 {
		m, n, c := wholeMap(random, 2), wholeMap(random, 2), wholeCircle(random, 3)
		both, _ := impl.ComposeMaps(m, n)
		between, _ := impl.ImageCircle(n, c)
		first, code := impl.ImageCircle(m, between)
		second, secondCode := impl.ImageCircle(both, c)
		isAlike, alikeCode := impl.AreAlikeCircles(first, second, 1e-5)
		if !isAlike || code != impl.OK || secondCode != impl.OK || alikeCode != impl.OK {
			t.Errorf("%v after %v and %v: got %v and %v", m, n, c, first, second)
		}
		inverse, _ := impl.InverseMap(n)
		back, code := impl.ImageCircle(inverse, between)
		isAlike, alikeCode = impl.AreAlikeCircles(back, c, 1e-4)
		wantBool(t, "ImageCircle there and back", isAlike && code == impl.OK, alikeCode, true, impl.OK)
	}
}

func throughPointsForTest(p, q, r complex64) (impl.Circle, int64) {
	if !isFinitePoint(p) || !isFinitePoint(q) || !isFinitePoint(r) {
		return impl.Circle{}, impl.ErrRange
	}
	m, code := throughForTest(near(p), near(q), near(r))
	if code != impl.OK {
		return impl.Circle{}, code
	}
	line, _ := lineForTest(0, 1)
	return imageForTest(inverseForTest(m), line)
}

func TestCircleThrough(t *testing.T) {
	random := rand.New(rand.NewSource(226))
	codes := map[int64]int{}
	for range 20000 {
		list := randomFinitePoints(random, 3)
		switch random.Intn(12) {
		case 0:
			list[random.Intn(3)] = list[random.Intn(3)]
		case 1:
			list[random.Intn(3)] = randomPoint(random)
		}
		p, q, r := list[0], list[1], list[2]
		got, code := impl.CircleThrough(p, q, r)
		want, wantCode := throughPointsForTest(p, q, r)
		wantCircle(t, "CircleThrough "+listText(list), got, code, want, wantCode)
		codes[code]++
	}
	if codes[impl.OK] == 0 || codes[impl.ErrRange] == 0 || codes[impl.ErrState] == 0 || codes[impl.ErrLimit] == 0 || len(codes) != 4 {
		t.Errorf("codes: %v", codes)
	}
}

func TestCircleThroughEdges(t *testing.T) {
	z, l := complex(minusZero, minusZero), complex(least, 0)
	cases := []struct {
		p, q, r complex64
		want    impl.Circle
		code    int64
	}{
		{0, 1 + 1i, 2, impl.Circle{A: 1, B: -1}, impl.OK},
		{1, 1i, -1, impl.Circle{A: 1, C: -1}, impl.OK},
		{3, 4 + 1i, 5, impl.Circle{A: 0.0625, B: -0.25, C: 0.9375}, impl.OK},
		{0, 1, 2, impl.Circle{B: 1i}, impl.OK}, // points on a line
		{0, 1 + 1i, 3 + 3i, impl.Circle{B: 1 - 1i}, impl.OK},
		{2i, 5 + 2i, -3 + 2i, impl.Circle{B: 1i, C: -4}, impl.OK},
		{0, l, complex(0, least), impl.Circle{}, impl.ErrLimit}, // A is much greater than C, which is rounded to 0
		{0, 0x1p127, -0x1p127i, impl.Circle{A: leastNormal, B: -1 + 1i}, impl.OK},
		{1, 1, 2, impl.Circle{}, impl.ErrState}, {1, 2, 1, impl.Circle{}, impl.ErrState}, {2, 1, 1, impl.Circle{}, impl.ErrState}, {1i, 1i, 1i, impl.Circle{}, impl.ErrState},
		{0, z, 1, impl.Circle{}, impl.ErrState}, {0, 1, z, impl.Circle{}, impl.ErrState}, {1, complex(minusZero, 0), complex(0, minusZero), impl.Circle{}, impl.ErrState}, // 0 and -0 are equal
		{1, 1, complex(infinite, 0), impl.Circle{}, impl.ErrRange},
		{complex(0, notNumber), complex(0, notNumber), 1, impl.Circle{}, impl.ErrRange},
	}
	for _, c := range cases {
		got, code := impl.CircleThrough(c.p, c.q, c.r)
		wantNumber(t, "code of CircleThrough "+listText([]complex64{c.p, c.q, c.r}), code, c.code)
		if code != impl.OK {
			wantCircle(t, "CircleThrough", got, code, impl.Circle{}, code)
			continue
		}
		isAlike, alikeCode := impl.AreAlikeCircles(got, c.want, 0)
		wantBool(t, "CircleThrough "+listText([]complex64{c.p, c.q, c.r})+" "+circleBits(got), isAlike, alikeCode, true, impl.OK)
		isLine, _ := impl.IsLine(got)
		wantBool(t, "IsLine "+circleBits(got), isLine, 0, c.want.A == 0, 0)
	}
	for _, odd := range oddPoints() {
		for at := range 3 {
			list := []complex64{1, 1, 1}
			list[at] = odd
			got, code := impl.CircleThrough(list[0], list[1], list[2])
			wantCircle(t, "CircleThrough "+listText(list), got, code, impl.Circle{}, impl.ErrRange)
		}
	}
}

// A circle goes through its three points, in whatever order they are told.
func TestCirclesGoThroughTheirPoints(t *testing.T) {
	random := rand.New(rand.NewSource(227))
	for range 2000 {
		point := func() complex64 { return complex(float32(random.Intn(21)-10), float32(random.Intn(21)-10)) }
		p, q, r := point(), point(), point()
		c, code := impl.CircleThrough(p, q, r)
		if code == impl.ErrState {
			continue
		}
		turn, _ := impl.Orientation(p, q, r)
		if isLine, _ := impl.IsLine(c); isLine && turn != 0 {
			t.Errorf("CircleThrough %v, %v and %v: got a line", p, q, r)
		}
		for _, x := range []complex64{p, q, r} {
			if side := sideNear(c, near(x)); side != 0 || code != impl.OK {
				t.Errorf("CircleThrough %v, %v and %v: got %v and %d; %v is on the side %d", p, q, r, c, code, x, side)
			}
		}
		again, _ := impl.CircleThrough(r, p, q)
		isAlike, alikeCode := impl.AreAlikeCircles(again, c, 1e-4)
		wantBool(t, "CircleThrough in another order", isAlike, alikeCode, true, impl.OK)
	}
}
