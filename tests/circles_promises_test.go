package tests

import (
	"fmt"
	"math/rand"
	"slices"
	"testing"

	"loop.example/g01171/impl"
)

// circleResults tells all that the functions of chapter 4 return, to the last bit.
func circleResults(c, d impl.Circle, m impl.Map, s impl.Spot, x complex64, bound float32, n int64) string {
	text := fmt.Sprintln(impl.ValidCircle(c), impl.SameCircle(c, d), impl.CircleText(c))
	addCircle := func(c impl.Circle, code int64) { text += fmt.Sprintln(circleBits(c), code) }
	addSpot := func(s impl.Spot, code int64) { text += fmt.Sprintln(spotText(s), code) }
	addReal := func(a float32, code int64) { text += fmt.Sprintln(bitsText(complex(a, 0)), code) }
	addBool := func(is bool, code int64) { text += fmt.Sprintln(is, code) }
	addNumber := func(n, code int64) { text += fmt.Sprintln(n, code) }
	addCircle(impl.ReadCircle(impl.CircleText(c)))
	addBool(impl.IsLine(c))
	addCircle(impl.CircleAround(x, bound))
	addCircle(impl.LineThrough(x, s.At))
	centre, code := impl.CircleCentre(c)
	text += fmt.Sprintln(bitsText(centre), code)
	addReal(impl.CircleRadius(c))
	addCircle(impl.TidyCircle(c))
	addCircle(impl.OtherSide(c))
	addNumber(impl.SideOf(c, s))
	addSpot(impl.MirrorIn(c, s))
	addCircle(impl.ImageCircle(m, c))
	images, code := impl.ImagesOf(m, c, n)
	text += fmt.Sprintln(circlesText(images), code)
	addCircle(impl.MirrorCircle(c, d))
	addReal(impl.PairValue(c, d))
	addNumber(impl.HowTheyMeet(c, d, bound))
	addBool(impl.IsInside(c, d))
	pairing, code := impl.PairingMap(c, d)
	text += fmt.Sprintln(mapBits(pairing), code)
	addSpot(impl.SpotOn(c, x))
	addCircle(impl.CircleThrough(x, s.At, centre))
	addBool(impl.AreAlikeCircles(c, d, bound))
	return text
}

func TestEqualCirclesHaveEqualResults(t *testing.T) {
	random := rand.New(rand.NewSource(240))
	for range 500 {
		c, d, m, s := randomCircle(random), randomCircle(random), randomMap(random), randomSpot(random)
		x, n := randomPoint(random), int64(random.Intn(24)-1)
		first, second := circleResults(c, d, m, s, x, imag(x), n), circleResults(c, d, m, s, x, imag(x), n)
		if first != second {
			t.Errorf("first %s, then %s", first, second)
		}
	}
}

func TestCircleFunctionsReturnForAllParts(t *testing.T) {
	random := rand.New(rand.NewSource(241))
	circle := func() impl.Circle {
		return impl.Circle{A: randomPart(random), B: randomPoint(random), C: randomPart(random)}
	}
	for range 5000 {
		m := mapOf([4]complex64(randomPoints(random, 4)))
		s := impl.Spot{Far: random.Intn(3) == 0, At: randomPoint(random)}
		circleResults(circle(), circle(), m, s, randomPoint(random), randomPart(random), random.Int63()-random.Int63())
	}
}

func TestImagesShareNoMemory(t *testing.T) {
	m, c := impl.Map{A: 1, B: 1, D: 1}, impl.Circle{A: 1, C: -1}
	for n := range int64(impl.MaxPower + 1) {
		first, _ := impl.ImagesOf(m, c, n)
		want := slices.Clone(first)
		second, _ := impl.ImagesOf(m, c, n)
		first = append(first, impl.Circle{})
		for i := range first {
			first[i] = impl.Circle{A: 77}
		}
		wantCircles(t, "ImagesOf behind a change", second, impl.OK, want, impl.OK)
	}
}

// Results that are circles, maps or spots are valid, also where arguments have parts of all sizes.
func TestResultsOfCirclesAreValid(t *testing.T) {
	random := rand.New(rand.NewSource(242))
	for range 2000 {
		c, d, m := randomCircle(random), randomCircle(random), randomMap(random)
		points := randomFinitePoints(random, 3)
		check := func(name string, made impl.Circle, code int64) {
			wantBool(t, name+" "+circleBits(made), impl.ValidCircle(made), 0, code == impl.OK, 0)
		}
		made, code := impl.TidyCircle(c)
		check("TidyCircle", made, code)
		made, code = impl.OtherSide(c)
		check("OtherSide", made, code)
		made, code = impl.ImageCircle(m, c)
		check("ImageCircle", made, code)
		made, code = impl.MirrorCircle(c, d)
		check("MirrorCircle", made, code)
		made, code = impl.CircleAround(points[0], real(points[1]))
		check("CircleAround", made, code)
		made, code = impl.LineThrough(points[0], points[1])
		check("LineThrough", made, code)
		made, code = impl.CircleThrough(points[0], points[1], points[2])
		check("CircleThrough", made, code)
		images, _ := impl.ImagesOf(m, c, 5)
		for _, image := range images {
			check("ImagesOf", image, impl.OK)
		}
		pairing, code := impl.PairingMap(c, d)
		wantBool(t, "PairingMap "+mapBits(pairing), impl.ValidMap(pairing), 0, code == impl.OK, 0)
		s, _ := impl.SpotOn(c, points[0])
		mirrored, _ := impl.MirrorIn(c, s)
		wantBool(t, "spots", impl.ValidSpot(s) && impl.ValidSpot(mirrored), 0, true, 0)
	}
}

func TestExampleOfChapter4(t *testing.T) {
	unit := around(t, 0, 1)
	if unit != (impl.Circle{A: 1, C: -1}) {
		t.Errorf("CircleAround: got %v", unit)
	}
	for i, s := range nearAll(0, 1, 2) {
		side, code := impl.SideOf(unit, s)
		wantNumber(t, "SideOf", side, int64(i-1))
		wantNumber(t, "code of SideOf", code, impl.OK)
	}
	half, code := impl.MirrorIn(unit, near(2))
	wantSpot(t, "MirrorIn", half, code, near(0.5), impl.OK)
	far, code := impl.MirrorIn(unit, near(0))
	wantSpot(t, "MirrorIn", far, code, farSpot, impl.OK)
	shift, _ := impl.ShiftMap(1)
	image, code := impl.ImageCircle(shift, unit)
	if image != (impl.Circle{A: 1, B: -1}) || code != impl.OK {
		t.Errorf("ImageCircle: got %v and %d", image, code)
	}
	line, code := impl.LineThrough(0, 1)
	if line != (impl.Circle{B: 1i}) || code != impl.OK {
		t.Errorf("LineThrough: got %v and %d", line, code)
	}
	value, code := impl.PairValue(unit, around(t, 3, 1))
	wantReal(t, "PairValue", value, code, -3.5, impl.OK)
	wantMeeting(t, unit, around(t, 3, 1), 0, impl.CrApart, impl.OK)
}
