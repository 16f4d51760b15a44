package tests

import (
	"math"
	"math/big"
	"math/rand"
	"testing"

	"loop.example/g01171/impl"
)

func composeForTest(m, n impl.Map) (impl.Map, int64) {
	v, w := wideParts(m), wideParts(n)
	return tidyForTest([4]wideNumber{
		v[0].times(w[0]).plus(v[1].times(w[2])),
		v[0].times(w[1]).plus(v[1].times(w[3])),
		v[2].times(w[0]).plus(v[3].times(w[2])),
		v[2].times(w[1]).plus(v[3].times(w[3])),
	})
}

func inverseForTest(m impl.Map) impl.Map {
	r := realsOf(m)
	return mapOfReals([8]float32{r[6], r[7], minus(r[2]), minus(r[3]), minus(r[4]), minus(r[5]), r[0], r[1]})
}

func powerForTest(m impl.Map, n int64) (impl.Map, int64) {
	if n == 0 {
		return impl.Map{A: 1, D: 1}, impl.OK
	}
	if n < 0 {
		return powerForTest(inverseForTest(m), -n)
	}
	found, code := tidyForTest(wideParts(m))
	for n--; n > 0 && code == impl.OK; n-- {
		found, code = composeForTest(found, m)
	}
	return found, code
}

func TestTidyMap(t *testing.T) {
	random := rand.New(rand.NewSource(120))
	limits := 0
	for _, m := range manyMaps(random, 2000) {
		got, code := impl.TidyMap(m)
		want, wantCode := tidyForTest(wideParts(m))
		wantMap(t, "TidyMap "+mapBits(m), got, code, want, wantCode)
		if code != impl.OK {
			limits++
			continue
		}
		most := 0.0
		for _, a := range realsOf(got) {
			most = math.Max(most, math.Abs(float64(a)))
		}
		if most < 1 || most >= 2 {
			t.Errorf("TidyMap %s: the greatest part is %g", mapBits(m), most)
		}
	}
	if limits == 0 {
		t.Error("no map without a tidy one was tried")
	}
}

func TestTidyMapEdges(t *testing.T) {
	l := complex(least, 0)
	cases := []struct {
		m, want impl.Map
		code    int64
	}{
		{impl.Map{A: 8, D: 8}, impl.Map{A: 1, D: 1}, impl.OK},
		{impl.Map{A: 1, D: 1}, impl.Map{A: 1, D: 1}, impl.OK},
		{impl.Map{A: 1.75, D: 1}, impl.Map{A: 1.75, D: 1}, impl.OK},
		{impl.Map{A: 2, D: 1}, impl.Map{A: 1, D: 0.5}, impl.OK},
		{impl.Map{A: 1, D: -2.5}, impl.Map{A: 0.5, D: -1.25}, impl.OK},
		{impl.Map{A: 1, D: complex(0.25, -6)}, impl.Map{A: 0.25, D: complex(0.0625, -1.5)}, impl.OK}, // the parts count, not the sizes
		{impl.Map{A: 1.5 + 1.5i, D: 1}, impl.Map{A: 1.5 + 1.5i, D: 1}, impl.OK},
		{impl.Map{A: l, D: 3 * l}, impl.Map{A: 0.5, D: 1.5}, impl.OK},
		{impl.Map{A: complex(greatest, 0), D: complex(greatest, 0)}, impl.Map{A: complex(ofBits(0x3fffffff), 0), D: complex(ofBits(0x3fffffff), 0)}, impl.OK},
		{impl.Map{A: 0.5, B: complex(minusZero, 0), C: complex(0, minusZero), D: 0.5}, impl.Map{A: 1, B: complex(minusZero, 0), C: complex(0, minusZero), D: 1}, impl.OK},
		{impl.Map{A: 0x1p100, D: 0x1p-49}, impl.Map{A: 1, D: l}, impl.OK},
		{impl.Map{A: 0x1p100, D: 0x1.8p-49}, impl.Map{A: 1, D: 2 * l}, impl.OK}, // ties to even
		{impl.Map{A: 0x1p100, B: -0x1p-51, D: 1}, impl.Map{A: 1, B: complex(minusZero, 0), D: 0x1p-100}, impl.OK},
		{impl.Map{A: 0x1p100, D: 0x1p-50}, impl.Map{}, impl.ErrLimit}, // a tie that is rounded to 0
		{impl.Map{A: 0x1p100, D: 0x1p-100}, impl.Map{}, impl.ErrLimit},
		{impl.Map{A: complex(greatest, 0), B: l, C: l, D: l}, impl.Map{}, impl.ErrLimit},
		{impl.Map{A: 0x1p100, B: 0x1p100, C: 0x1p100, D: complex(0x1p100, 0x1p-60)}, impl.Map{}, impl.ErrLimit}, // rows that become equal
		{wideDeterminant0(), impl.Map{A: complex(0.5, 0x1p-31), B: 0.25, C: complex(1, 0x1p-29), D: complex(0.5, 0x1p-31)}, impl.OK},
	}
	for _, c := range cases {
		got, code := impl.TidyMap(c.m)
		wantMap(t, "TidyMap "+mapBits(c.m), got, code, c.want, c.code)
	}
	for _, m := range invalidMaps() {
		got, code := impl.TidyMap(m)
		wantMap(t, "TidyMap of no map", got, code, impl.Map{}, impl.ErrInvalid)
	}
}

func TestComposeMaps(t *testing.T) {
	random := rand.New(rand.NewSource(121))
	list := manyMaps(random, 60)
	codes := map[int64]int{}
	for _, m := range list {
		for _, n := range list {
			got, code := impl.ComposeMaps(m, n)
			want, wantCode := composeForTest(m, n)
			wantMap(t, "ComposeMaps "+mapBits(m)+" and "+mapBits(n), got, code, want, wantCode)
			codes[code]++
		}
	}
	if codes[impl.OK] == 0 || codes[impl.ErrLimit] == 0 || len(codes) != 2 {
		t.Errorf("codes: %v", codes)
	}
}

func TestComposeMapsEdges(t *testing.T) {
	shift, times := impl.Map{A: 1, B: 1, D: 1}, impl.Map{A: 2, D: 1}
	singular := wideDeterminant0()
	cases := []struct {
		m, n, want impl.Map
		code       int64
	}{
		{shift, times, impl.Map{A: 1, B: 0.5, D: 0.5}, impl.OK},
		{times, shift, impl.Map{A: 1, B: 1, D: 0.5}, impl.OK}, // the order matters
		{impl.FlipMap(), impl.FlipMap(), impl.Map{A: 1, D: 1}, impl.OK},
		{impl.Map{A: 0x1p100, D: 0x1p-40}, impl.Map{A: 0x1p-40, D: 0x1p100}, impl.Map{A: 1, D: 1}, impl.OK},
		{impl.Map{A: complex(greatest, 0), D: complex(greatest, 0)}, impl.Map{A: complex(greatest, 0), D: complex(greatest, 0)}, impl.Map{A: complex(ofBits(0x3ffffffe), 0), D: complex(ofBits(0x3ffffffe), 0)}, impl.OK},
		{impl.Map{A: complex(least, 0), D: complex(least, 0)}, impl.Map{A: complex(least, 0), D: complex(0, least)}, impl.Map{A: 1, D: 1i}, impl.OK},
		{impl.Map{A: 0x1p100, D: 0x1p-49}, impl.Map{A: 0x1p100, D: 0x1p-49}, impl.Map{}, impl.ErrLimit},
		{singular, inverseForTest(singular), impl.Map{}, impl.ErrLimit}, // all sums are 0
		{impl.Map{}, shift, impl.Map{}, impl.ErrInvalid},
		{shift, impl.Map{}, impl.Map{}, impl.ErrInvalid},
	}
	for _, c := range cases {
		got, code := impl.ComposeMaps(c.m, c.n)
		wantMap(t, "ComposeMaps "+mapBits(c.m)+" and "+mapBits(c.n), got, code, c.want, c.code)
	}
	for _, m := range invalidMaps() {
		first, codeFirst := impl.ComposeMaps(m, shift)
		wantMap(t, "ComposeMaps of no map first", first, codeFirst, impl.Map{}, impl.ErrInvalid)
		second, codeSecond := impl.ComposeMaps(shift, m)
		wantMap(t, "ComposeMaps of no map second", second, codeSecond, impl.Map{}, impl.ErrInvalid)
	}
}

func TestInverseMap(t *testing.T) {
	random := rand.New(rand.NewSource(122))
	for _, m := range manyMaps(random, 1000) {
		inverse, code := impl.InverseMap(m)
		wantMap(t, "InverseMap "+mapBits(m), inverse, code, inverseForTest(m), impl.OK)
		back, code := impl.InverseMap(inverse)
		wantMap(t, "inverse of an inverse", back, code, m, impl.OK)
	}
	inverse, code := impl.InverseMap(impl.Map{A: 2, B: complex(0, minusZero), C: complex(-3, 0), D: 5})
	wantMap(t, "InverseMap", inverse, code, impl.Map{A: 5, B: complex(minusZero, 0), C: complex(3, minusZero), D: 2}, impl.OK)
	for _, m := range invalidMaps() {
		inverse, code := impl.InverseMap(m)
		wantMap(t, "InverseMap of no map", inverse, code, impl.Map{}, impl.ErrInvalid)
	}
}

func TestPowerMap(t *testing.T) {
	random := rand.New(rand.NewSource(123))
	codes := map[int64]int{}
	for _, m := range manyMaps(random, 150) {
		for n := int64(-impl.MaxPower); n <= impl.MaxPower; n++ {
			got, code := impl.PowerMap(m, n)
			want, wantCode := powerForTest(m, n)
			wantMap(t, "PowerMap "+mapBits(m), got, code, want, wantCode)
			codes[code]++
		}
	}
	if codes[impl.OK] == 0 || codes[impl.ErrLimit] == 0 || len(codes) != 2 {
		t.Errorf("codes: %v", codes)
	}
}

func TestPowerMapEdges(t *testing.T) {
	shift, great := impl.Map{A: 1, B: 1, D: 1}, impl.Map{A: 0x1p100, D: 1}
	cases := []struct {
		m    impl.Map
		n    int64
		want impl.Map
		code int64
	}{
		{shift, 0, impl.Map{A: 1, D: 1}, impl.OK},
		{shift, 1, shift, impl.OK},
		{shift, 3, impl.Map{A: 0.5, B: 1.5, D: 0.5}, impl.OK},
		{shift, -3, impl.Map{A: 0.5, B: complex(-1.5, minusZero), D: 0.5}, impl.OK},
		{shift, 20, impl.Map{A: 0.0625, B: 1.25, D: 0.0625}, impl.OK},
		{impl.Map{A: 3, D: 3}, 0, impl.Map{A: 1, D: 1}, impl.OK},
		{impl.Map{A: 3, D: 3}, 1, impl.Map{A: 1.5, D: 1.5}, impl.OK},
		{impl.Map{A: 2, D: 1}, 20, impl.Map{A: 1, D: 0x1p-20}, impl.OK},
		{great, 0, impl.Map{A: 1, D: 1}, impl.OK},
		{great, 1, impl.Map{A: 1, D: 0x1p-100}, impl.OK},
		{great, 2, impl.Map{}, impl.ErrLimit},
		{great, -2, impl.Map{}, impl.ErrLimit},
		{great, 20, impl.Map{}, impl.ErrLimit},
		{great, 21, impl.Map{}, impl.ErrRange},
		{impl.Map{A: 0x1p100, D: 0x1p-100}, 0, impl.Map{A: 1, D: 1}, impl.OK},
		{impl.Map{A: 0x1p100, D: 0x1p-100}, 1, impl.Map{}, impl.ErrLimit},
		{impl.Map{A: 0x1p100, D: 0x1p-100}, -1, impl.Map{}, impl.ErrLimit},
	}
	for _, c := range cases {
		got, code := impl.PowerMap(c.m, c.n)
		wantMap(t, "PowerMap "+mapBits(c.m), got, code, c.want, c.code)
	}
	for _, n := range []int64{21, -21, 22, 1 << 32, 1<<32 + 1, math.MaxInt64, math.MinInt64, math.MinInt64 + 1} {
		got, code := impl.PowerMap(shift, n)
		wantMap(t, "PowerMap out of range", got, code, impl.Map{}, impl.ErrRange)
	}
	for _, m := range invalidMaps() {
		for _, n := range []int64{0, 1, -1, 21, math.MinInt64} {
			got, code := impl.PowerMap(m, n)
			wantMap(t, "PowerMap of no map", got, code, impl.Map{}, impl.ErrInvalid)
		}
	}
}

func TestConjugateMap(t *testing.T) {
	random := rand.New(rand.NewSource(124))
	list := manyMaps(random, 40)
	for _, m := range list {
		for _, by := range list {
			got, code := impl.ConjugateMap(m, by)
			want, wantCode := composeForTest(by, m)
			if wantCode == impl.OK {
				want, wantCode = composeForTest(want, inverseForTest(by))
			}
			wantMap(t, "ConjugateMap "+mapBits(m)+" by "+mapBits(by), got, code, want, wantCode)
		}
	}
	times, shift := impl.Map{A: 2, D: 1}, impl.Map{A: 1, B: 1, D: 1}
	got, code := impl.ConjugateMap(times, shift)
	wantMap(t, "ConjugateMap", got, code, impl.Map{A: 1, B: -0.5, D: 0.5}, impl.OK) // takes 1 to itself
	singular := wideDeterminant0()
	got, code = impl.ConjugateMap(impl.Map{A: 1, D: 1}, singular)
	wantMap(t, "ConjugateMap whose second map is none", got, code, impl.Map{}, impl.ErrLimit)
	got, code = impl.ConjugateMap(inverseForTest(singular), singular)
	wantMap(t, "ConjugateMap whose first map is none", got, code, impl.Map{}, impl.ErrLimit)
	for _, m := range invalidMaps() {
		got, code := impl.ConjugateMap(m, shift)
		wantMap(t, "ConjugateMap of no map", got, code, impl.Map{}, impl.ErrInvalid)
		got, code = impl.ConjugateMap(shift, m)
		wantMap(t, "ConjugateMap by no map", got, code, impl.Map{}, impl.ErrInvalid)
	}
}

// wholeOf tells the parts of a map as whole numbers, times what makes them so.
func wholeOf(m impl.Map, times float64) [8]int64 {
	var whole [8]int64
	for i, a := range realsOf(m) {
		whole[i] = int64(float64(a) * times)
	}
	return whole
}

func wholeProduct(m, n [8]int64) [8]int64 {
	at := func(i, j, k, l int) (int64, int64) {
		across := m[i]*n[j] - m[i+1]*n[j+1] + m[k]*n[l] - m[k+1]*n[l+1]
		return across, m[i]*n[j+1] + m[i+1]*n[j] + m[k]*n[l+1] + m[k+1]*n[l]
	}
	var w [8]int64
	w[0], w[1] = at(0, 0, 2, 4)
	w[2], w[3] = at(0, 2, 2, 6)
	w[4], w[5] = at(4, 0, 6, 4)
	w[6], w[7] = at(4, 2, 6, 6)
	return w
}

// Maps of small whole numbers are composed exactly: only a power of 2 is left out.
func TestWholeMapsAreComposedExactly(t *testing.T) {
	random := rand.New(rand.NewSource(125))
	for range 500 {
		m, n, o := wholeMap(random, 30), wholeMap(random, 30), wholeMap(random, 30)
		first, code := impl.ComposeMaps(m, n)
		whole := wholeProduct(wholeOf(m, 1), wholeOf(n, 1))
		wantWhole(t, first, code, whole)
		left, code := impl.ComposeMaps(first, o)
		whole = wholeProduct(whole, wholeOf(o, 1))
		wantWhole(t, left, code, whole)
		second, _ := impl.ComposeMaps(n, o)
		right, code := impl.ComposeMaps(m, second)
		wantMap(t, "maps composed in another order", right, code, left, impl.OK)
	}
}

func wantWhole(t *testing.T, got impl.Map, code int64, want [8]int64) {
	t.Helper()
	most := int64(1)
	for _, a := range want {
		most = max(most, a, -a)
	}
	times := 1.0
	for times*2 <= float64(most) {
		times *= 2
	}
	if code != impl.OK || wholeOf(got, times) != want {
		t.Errorf("composed: got %v and %s, want %v", got, impl.CodeName(code), want)
	}
}

// Maps of small whole numbers take spots exactly, first one and then the other one, or both at once.
func TestWholeMapsAreAppliedExactly(t *testing.T) {
	random := rand.New(rand.NewSource(126))
	for range 500 {
		m := wholeMap(random, 20)
		x := complex(float32(random.Intn(41)-20), float32(random.Intn(41)-20))
		got, code := impl.ApplyMap(m, near(x))
		w, whole := wholeOf(m, 1), [2]int64{int64(real(x)), int64(imag(x))}
		a, b := w[0]*whole[0]-w[1]*whole[1]+w[2], w[0]*whole[1]+w[1]*whole[0]+w[3]
		c, d := w[4]*whole[0]-w[5]*whole[1]+w[6], w[4]*whole[1]+w[5]*whole[0]+w[7]
		s := c*c + d*d
		if s == 0 {
			wantSpot(t, "ApplyMap to where a map is infinite", got, code, farSpot, impl.OK)
			continue
		}
		across, _ := big.NewRat(a*c+b*d, s).Float32()
		up, _ := big.NewRat(b*c-a*d, s).Float32()
		if got.Far || code != impl.OK || !isClose(got.At, complex(across, up), 0) {
			t.Errorf("ApplyMap %v to %v: got %v, want %v", m, x, got, complex(across, up))
		}
	}
}

// Applying what is composed is applying one map behind the other, the far spot included.
func TestMapsAreComposedAsTheyAreApplied(t *testing.T) {
	random := rand.New(rand.NewSource(127))
	exact := func() impl.Map {
		shift, _ := impl.ShiftMap(complex(float32(random.Intn(9)-4), float32(random.Intn(9)-4)))
		times, _ := impl.TimesMap([]complex64{1, -1, 1i, -2, 0.5, -0.5i, 4i}[random.Intn(7)])
		return []impl.Map{shift, times, impl.FlipMap()}[random.Intn(3)]
	}
	for range 2000 {
		m, n := exact(), exact()
		both, code := impl.ComposeMaps(m, n)
		wantNumber(t, "code of ComposeMaps", code, impl.OK)
		x := complex([]float32{0, 1, -1, 2, -0.5, 4}[random.Intn(6)], float32(0))
		for _, s := range []impl.Spot{near(x), near(x * 1i), farSpot} {
			between, _ := impl.ApplyMap(n, s)
			there, _ := impl.ApplyMap(m, between)
			at, _ := impl.ApplyMap(both, s)
			if at.Far != there.Far || !isClose(at.At, there.At, 1e-6) {
				t.Errorf("%v after %v at %v: got %v, want %v", m, n, s, at, there)
			}
			inverse, _ := impl.InverseMap(n)
			back, _ := impl.ApplyMap(inverse, between)
			if back.Far != s.Far || !isClose(back.At, s.At, 1e-6) {
				t.Errorf("%v there and back from %v: got %v", n, s, back)
			}
		}
	}
}
