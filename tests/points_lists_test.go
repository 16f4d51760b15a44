package tests

import (
	"math/big"
	"math/rand"
	"sort"
	"testing"

	"loop.example/g01171/impl"
)

// inOrder returns points in their order without the program.
func inOrder(list []complex64) []complex64 {
	sorted := append([]complex64{}, list...)
	sort.SliceStable(sorted, func(i, j int) bool { return isBehind(sorted[j], sorted[i]) })
	return sorted
}

// eachOnce returns points in their order, of those that are the same one.
func eachOnce(list []complex64) []complex64 {
	var kept []complex64
	isMet := map[string]bool{}
	for _, x := range inOrder(list) {
		if !isMet[bitsText(x)] {
			isMet[bitsText(x)] = true
			kept = append(kept, x)
		}
	}
	return kept
}

func checkSorted(t *testing.T, list []complex64) {
	t.Helper()
	got, code := impl.SortPoints(list)
	wantPoints(t, "SortPoints "+listText(list), got, code, inOrder(list), impl.OK)
	got, code = impl.UniquePoints(list)
	wantPoints(t, "UniquePoints "+listText(list), got, code, eachOnce(list), impl.OK)
}

func TestSortedPoints(t *testing.T) {
	random := rand.New(rand.NewSource(40))
	checkSorted(t, shuffledPoints(random, edgePoints()))
	for n := range impl.MaxPoints + 1 {
		checkSorted(t, randomPoints(random, n))
		checkSorted(t, gridPoints(random, n))
	}
}

func TestSortPointsEdges(t *testing.T) {
	nan, zero := notNumber, minusZero
	list := []complex64{
		complex(nan, nan), 1i, complex(nan, -1), complex(0, nan), complex(zero, infinite), 0, complex(0, zero), complex(zero, 0),
		complex(zero, zero), 1, complex(minus(infinite), nan), complex(infinite, 0), complex(least, 0), complex(minus(nan), -1), complex(minus(least), 9),
	}
	want := []complex64{
		complex(minus(infinite), nan), complex(minus(least), 9), complex(zero, zero), complex(zero, 0), complex(zero, infinite), complex(0, zero), 0, 1i,
		complex(0, nan), complex(least, 0), 1, complex(infinite, 0), complex(nan, -1), complex(nan, -1), complex(nan, nan),
	}
	got, code := impl.SortPoints(list)
	wantPoints(t, "SortPoints", got, code, want, impl.OK)
	unique := append(append([]complex64{}, want[:13]...), want[14])
	got, code = impl.UniquePoints(list)
	wantPoints(t, "UniquePoints", got, code, unique, impl.OK)
	for _, empty := range [][]complex64{nil, {}} {
		checkSorted(t, empty)
	}
	got, code = impl.UniquePoints([]complex64{1, 1})
	wantPoints(t, "UniquePoints 1, 1", got, code, []complex64{1}, impl.OK)
	got, code = impl.UniquePoints(repeatedPoint(complex(nan, zero), 256))
	wantPoints(t, "UniquePoints of one NaN", got, code, []complex64{complex(nan, zero)}, impl.OK)
	got, code = impl.UniquePoints([]complex64{0, complex(zero, 0), 0, complex(zero, 0)})
	wantPoints(t, "UniquePoints of equal points that are not the same", got, code, []complex64{complex(zero, 0), 0}, impl.OK)
}

func TestNearestPoint(t *testing.T) {
	random := rand.New(rand.NewSource(41))
	for range 500 {
		list := randomFinitePoints(random, 1+random.Intn(30))
		x := randomFinitePoint(random)
		if random.Intn(2) == 0 {
			list = gridPoints(random, 1+random.Intn(30))
		}
		want := 0
		for i, y := range list {
			if squaredDistance(y, x).Cmp(squaredDistance(list[want], x)) < 0 {
				want = i
			}
		}
		got, code := impl.NearestPoint(list, x)
		wantNumber(t, "NearestPoint", got, int64(want))
		wantNumber(t, "code of NearestPoint", code, impl.OK)
	}
}

func TestNearestPointEdges(t *testing.T) {
	nan, far := complex(notNumber, 0), complex(infinite, 0)
	late := append(repeatedPoint(1, 255), 0)
	cases := []struct {
		list []complex64
		x    complex64
		want int64
		code int64
	}{
		{[]complex64{0, 4}, 3, 1, impl.OK},
		{[]complex64{0, 4}, 2, 0, impl.OK},                 // equally far
		{[]complex64{4, 0, 1 + 1i, 1 - 1i}, 1, 1, impl.OK}, // the first of three
		{[]complex64{5}, -9, 0, impl.OK},
		{[]complex64{1i, 1i, 1i}, 1i, 0, impl.OK},
		{[]complex64{nan, 1}, 1, 0, impl.OK}, // nothing is less than NaN
		{[]complex64{1, nan, 0}, 0, 2, impl.OK},
		{[]complex64{1, 2}, nan, 0, impl.OK},
		{[]complex64{1, far}, far, 0, impl.OK},
		{[]complex64{far, 1}, 0, 1, impl.OK},
		{[]complex64{far, complex(minus(infinite), 0), 1}, far, 0, impl.OK}, // the first sum is NaN
		{[]complex64{complex(greatest, greatest), complex(greatest, 0)}, complex(minus(greatest), 0), 1, impl.OK},
		{[]complex64{complex(3*least, 0), complex(2*least, 0)}, complex(least, 0), 1, impl.OK}, // narrow squares would be 0
		{[]complex64{complex(1, least), 1}, 0, 0, impl.OK},                                     // wide sums are equal
		{late, 0, 255, impl.OK},
		{nil, 0, 0, impl.ErrNotFound},
		{[]complex64{}, nan, 0, impl.ErrNotFound},
		{repeatedPoint(1, 257), 1, 0, impl.ErrLimit},
		{repeatedPoint(nan, 1000000), nan, 0, impl.ErrLimit},
	}
	for _, c := range cases {
		got, code := impl.NearestPoint(c.list, c.x)
		wantNumber(t, "NearestPoint", got, c.want)
		wantNumber(t, "code of NearestPoint", code, c.code)
	}
}

// dividedForTest rounds the exact quotient of a finite number and a whole one.
func dividedForTest(a float32, n int) float32 {
	if a == 0 || !isFinite(a) {
		return a
	}
	quotient := new(big.Rat).SetFloat64(float64(a))
	narrow, _ := quotient.Quo(quotient, big.NewRat(int64(n), 1)).Float32()
	return narrow
}

func TestCentreOf(t *testing.T) {
	random := rand.New(rand.NewSource(42))
	for n := 1; n <= impl.MaxPoints; n++ {
		for _, list := range [][]complex64{randomPoints(random, n), randomFinitePoints(random, n), gridPoints(random, n)} {
			across, up := make([]float32, n), make([]float32, n)
			for i, x := range list {
				across[i], up[i] = real(x), imag(x)
			}
			sumAcross, _ := exactDot(across, ones(n))
			sumUp, _ := exactDot(up, ones(n))
			want := complex(dividedForTest(sumAcross, n), dividedForTest(sumUp, n))
			got, code := impl.CentreOf(list)
			wantPoint(t, "CentreOf", got, code, want, impl.OK)
			got, code = impl.CentreOf(shuffledPoints(random, list))
			wantPoint(t, "CentreOf in another order", got, code, want, impl.OK)
		}
	}
}

func TestCentreOfEdges(t *testing.T) {
	cases := []struct {
		list []complex64
		want complex64
		code int64
	}{
		{[]complex64{1, 3 + 2i}, 2 + 1i, impl.OK},
		{[]complex64{1, 0, 0}, complex(float32(1.0/3), 0), impl.OK},
		{[]complex64{complex(minusZero, minusZero)}, 0, impl.OK},                                // ExactSum is never -0
		{repeatedPoint(complex(least, minus(least)), 4), complex(least, minus(least)), impl.OK}, // divided behind the sum
		{[]complex64{complex(minus(least), 0), 0, 0}, complex(minusZero, 0), impl.OK},
		{[]complex64{16777216, 1, 1, 0}, 4194304.5, impl.OK}, // the sum is 16777218, rounded once
		{[]complex64{complex(greatest, 0), complex(greatest, 0)}, complex(infinite, 0), impl.OK},
		{[]complex64{complex(greatest, 1), complex(greatest, 1), complex(minus(greatest), 1)}, complex(greatest/3, 1), impl.OK},
		{[]complex64{complex(infinite, notNumber), complex(1, 1)}, complex(infinite, notNumber), impl.OK},
		{[]complex64{complex(infinite, minus(infinite)), complex(minus(infinite), 0)}, complex(notNumber, minus(infinite)), impl.OK},
		{repeatedPoint(3-5i, 256), 3 - 5i, impl.OK},
		{nil, 0, impl.ErrNotFound},
		{[]complex64{}, 0, impl.ErrNotFound},
		{repeatedPoint(3-5i, 257), 0, impl.ErrLimit},
		{repeatedPoint(complex(notNumber, 0), 1000000), 0, impl.ErrLimit},
	}
	for _, c := range cases {
		got, code := impl.CentreOf(c.list)
		wantPoint(t, "CentreOf "+impl.CodeName(c.code), got, code, c.want, c.code)
	}
}

func TestListsOfPointsHaveLimits(t *testing.T) {
	lists := map[string]func([]complex64) ([]complex64, int64){"SortPoints": impl.SortPoints, "UniquePoints": impl.UniquePoints, "HullOf": impl.HullOf}
	for name, f := range lists {
		got, code := f(repeatedPoint(1i, 256))
		if code != impl.OK || len(got) == 0 || got[0] != 1i {
			t.Errorf("%s of MaxPoints points: got %d points and %d", name, len(got), code)
		}
		for _, n := range []int{257, 1000, 1000000} {
			got, code = f(repeatedPoint(complex(notNumber, 1), n))
			wantPoints(t, name+" of more", got, code, nil, impl.ErrLimit)
		}
	}
}
