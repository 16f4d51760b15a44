package tests

import (
	"math"
	"math/rand"
	"sort"
	"testing"

	"loop.example/g01171/impl"
)

func TestSumOfGoesFromLeftToRight(t *testing.T) {
	cases := []struct {
		list []float32
		want float32
	}{
		{nil, 0},
		{[]float32{}, 0},
		{[]float32{minusZero}, minusZero}, // a sum begins with its first number, not with 0
		{[]float32{minusZero, minusZero}, minusZero},
		{[]float32{minusZero, 0}, 0},
		{[]float32{1, -1}, 0},
		{[]float32{16777216, 1, 1}, 16777216},
		{[]float32{1, 1, 16777216}, 16777218},
		{[]float32{1e30, 1, -1e30}, 0},
		{[]float32{least, least}, 2 * least},
		{[]float32{leastNormal, minus(least)}, ofBits(0x007fffff)},
		{[]float32{greatest, greatest, minus(greatest)}, infinite},
		{[]float32{greatest, minus(greatest), greatest}, greatest},
		{[]float32{infinite, 1}, infinite},
		{[]float32{infinite, minus(infinite)}, notNumber},
		{[]float32{1, notNumber, 2}, notNumber},
	}
	for _, c := range cases {
		got, code := impl.SumOf(c.list)
		wantReal(t, "SumOf", got, code, c.want, impl.OK)
	}
	random := rand.New(rand.NewSource(4))
	for range 500 {
		list := randomList(random, 1+random.Intn(20))
		want := list[0]
		for _, a := range list[1:] {
			// The sum of two narrow numbers, rounded to the wide width first, is rounded as if once.
			want = float32(float64(want) + float64(a))
		}
		got, code := impl.SumOf(list)
		wantReal(t, "SumOf", got, code, want, impl.OK)
	}
}

func TestDotOfRoundsProducts(t *testing.T) {
	near := ofBits(0x3f800001)
	square := float32(float64(near) * float64(near))
	cases := []struct {
		x, y []float32
		want float32
	}{
		{nil, []float32{}, 0},
		{[]float32{-1}, []float32{0}, minusZero},
		{[]float32{1, 2}, []float32{3, -0.5}, 2},
		{[]float32{1, near}, []float32{minus(square), near}, 0}, // a fused product would leave something
		{[]float32{near, 1}, []float32{near, minus(square)}, 0},
		{[]float32{greatest, -1}, []float32{2, greatest}, infinite},
		{[]float32{least, 1}, []float32{0.5, minusZero}, 0},
		{[]float32{minus(least)}, []float32{0.5}, minusZero},
		{[]float32{least, least}, []float32{0.75, 0.75}, 2 * least},
		{[]float32{infinite}, []float32{0}, notNumber},
		{[]float32{infinite, -1}, []float32{1, infinite}, notNumber},
		{[]float32{notNumber}, []float32{0}, notNumber},
	}
	for _, c := range cases {
		got, code := impl.DotOf(c.x, c.y)
		wantReal(t, "DotOf", got, code, c.want, impl.OK)
	}
	random := rand.New(rand.NewSource(5))
	for range 500 {
		n := 1 + random.Intn(20)
		x, y := randomList(random, n), randomList(random, n)
		want := float32(float64(x[0]) * float64(y[0]))
		for i := 1; i < n; i++ {
			want = float32(float64(want) + float64(float32(float64(x[i])*float64(y[i]))))
		}
		got, code := impl.DotOf(x, y)
		wantReal(t, "DotOf", got, code, want, impl.OK)
	}
}

// randomList returns numbers of which many cancel out or lie far apart.
func randomList(random *rand.Rand, n int) []float32 {
	edges := edgeReals()
	list := make([]float32, n)
	for i := range list {
		switch random.Intn(6) {
		case 0:
			list[i] = edges[random.Intn(len(edges))]
		case 1:
			list[i] = ofBits(random.Uint32())
		case 2:
			list[i] = ofBits(random.Uint32() & 0x80ffffff)
		case 3:
			list[i] = float32(random.Intn(9) - 4)
		case 4:
			list[i] = minus(list[random.Intn(i+1)])
		default:
			list[i] = float32(random.NormFloat64())
		}
		if !isFinite(list[i]) && random.Intn(8) != 0 {
			list[i] = greatest
		}
	}
	return list
}

func TestExactSumRoundsOnce(t *testing.T) {
	cases := []struct {
		list []float32
		want float32
	}{
		{nil, 0},
		{[]float32{minusZero}, 0}, // a sum that is 0 is never -0
		{[]float32{minusZero, minusZero}, 0},
		{[]float32{-3, 1, 2}, 0},
		{[]float32{16777216, 1, 1}, 16777218},
		{[]float32{16777216, 1}, 16777216},                  // a tie, to the even one
		{[]float32{16777218, 1}, 16777220},                  // a tie, to the even one
		{[]float32{16777216, 1, least}, 16777218},           // just above a tie
		{[]float32{16777218, 1, minus(least)}, 16777218},    // just below a tie
		{[]float32{-16777216, -1, minus(least)}, -16777218}, // the same below 0
		{[]float32{-16777218, -1, least}, -16777218},        // the same below 0
		{[]float32{greatest, 1, minus(greatest), minus(least)}, 1},
		{[]float32{least, minus(least), least}, least},
		{[]float32{leastNormal, minus(least)}, ofBits(0x007fffff)},
		{[]float32{ofBits(0x007fffff), least}, leastNormal},
		{[]float32{ofBits(0x00ffffff), least}, ofBits(0x01000000)},
		{[]float32{ofBits(0x01000000), least}, ofBits(0x01000000)},
		{[]float32{ofBits(0x01000001), least}, ofBits(0x01000002)},
		{[]float32{greatest, greatest, minus(greatest)}, greatest},
		{[]float32{greatest, 0x1p102}, greatest},
		{[]float32{greatest, 0x1p103}, infinite}, // a tie with what would be next
		{[]float32{greatest, 0x1p103, minus(least)}, greatest},
		{[]float32{minus(greatest), -0x1p103}, minus(infinite)},
		{[]float32{minus(greatest), -0x1p103, least}, minus(greatest)},
		{repeated(greatest, 256), infinite},
		{repeated(minus(greatest), 256), minus(infinite)},
		{repeated(minus(least), 256), -256 * least},
		{[]float32{infinite, minus(greatest)}, infinite},
		{[]float32{1, minus(infinite), minus(infinite)}, minus(infinite)},
		{[]float32{infinite, 1, minus(infinite)}, notNumber},
		{[]float32{1, notNumber}, notNumber},
		{[]float32{infinite, notNumber}, notNumber},
	}
	for _, c := range cases {
		got, code := impl.ExactSum(c.list)
		wantReal(t, "ExactSum", got, code, c.want, impl.OK)
	}
}

func TestExactSumsHeldAgainstBigNumbers(t *testing.T) {
	random := rand.New(rand.NewSource(6))
	for range 3000 {
		n := random.Intn(12)
		if random.Intn(50) == 0 {
			n = impl.MaxList
		}
		list := randomList(random, n)
		want, _ := exactDot(list, ones(n))
		got, code := impl.ExactSum(list)
		wantReal(t, "ExactSum", got, code, want, impl.OK)
		again, code := impl.ExactSum(shuffled(random, list))
		wantReal(t, "ExactSum in another order", again, code, want, impl.OK)
	}
}

func TestExactDotRoundsOnce(t *testing.T) {
	near := ofBits(0x3f800001)
	square := float32(float64(near) * float64(near))
	cases := []struct {
		x, y []float32
		want float32
	}{
		{nil, nil, 0},
		{[]float32{-1}, []float32{0}, 0},
		{[]float32{1, 2}, []float32{3, -0.5}, 2},
		{[]float32{1, near}, []float32{minus(square), near}, 0x1p-46},
		{[]float32{least}, []float32{least}, 0},                // greater than 0, rounded to 0
		{[]float32{minus(least)}, []float32{least}, minusZero}, // less than 0, rounded to a zero
		{[]float32{minus(least)}, []float32{0.5}, minusZero},
		{[]float32{minus(least), minus(least)}, []float32{0.5, least}, minus(least)},
		{[]float32{least, minus(least)}, []float32{0.5, least}, 0},
		{[]float32{least, minus(least)}, []float32{least, least}, 0}, // just 0
		{[]float32{least, least}, []float32{1, 0.5}, 2 * least},
		{[]float32{least, least, minus(least)}, []float32{1, 0.5, least}, least},
		{[]float32{greatest, minus(greatest), least}, []float32{greatest, greatest, least}, 0},
		{[]float32{greatest, minus(greatest), 1}, []float32{greatest, greatest, least}, least},
		{[]float32{greatest, minus(greatest)}, []float32{2, 1}, greatest},
		{[]float32{greatest}, []float32{greatest}, infinite},
		{[]float32{minus(greatest)}, []float32{greatest}, minus(infinite)},
		{repeated(greatest, 256), repeated(minus(greatest), 256), minus(infinite)},
		{repeated(least, 256), repeated(minus(least), 256), minusZero},
		{[]float32{infinite}, []float32{-2}, minus(infinite)},
		{[]float32{minus(infinite)}, []float32{minus(infinite)}, infinite},
		{[]float32{infinite, 1}, []float32{1, infinite}, infinite},
		{[]float32{infinite, -1}, []float32{1, infinite}, notNumber},
		{[]float32{infinite}, []float32{minusZero}, notNumber},
		{[]float32{0, 1}, []float32{minus(infinite), infinite}, notNumber},
		{[]float32{0}, []float32{notNumber}, notNumber},
		{[]float32{notNumber, 1}, []float32{infinite, infinite}, notNumber},
		{[]float32{minus(infinite), minus(greatest)}, []float32{least, minus(greatest)}, minus(infinite)},
	}
	for _, c := range cases {
		got, code := impl.ExactDot(c.x, c.y)
		wantReal(t, "ExactDot", got, code, c.want, impl.OK)
		turned, code := impl.ExactDot(c.y, c.x)
		wantReal(t, "ExactDot of the lists exchanged", turned, code, c.want, impl.OK)
	}
}

func TestExactDotsHeldAgainstBigNumbers(t *testing.T) {
	random := rand.New(rand.NewSource(7))
	for range 3000 {
		n := random.Intn(10)
		if random.Intn(50) == 0 {
			n = impl.MaxList
		}
		x, y := randomList(random, n), randomList(random, n)
		want, sign := exactDot(x, y)
		got, code := impl.ExactDot(x, y)
		wantReal(t, "ExactDot", got, code, want, impl.OK)
		gotSign, codeSign := impl.SignOfDot(x, y)
		wantCode := int64(impl.OK)
		for i := range x {
			if !isFinite(x[i]) || !isFinite(y[i]) {
				sign, wantCode = 0, impl.ErrRange
			}
		}
		wantNumber(t, "SignOfDot", gotSign, sign)
		wantNumber(t, "code of SignOfDot", codeSign, wantCode)
		order := random.Perm(n)
		movedX, movedY := make([]float32, n), make([]float32, n)
		for i, j := range order {
			movedX[i], movedY[i] = x[j], y[j]
		}
		moved, code := impl.ExactDot(movedX, movedY)
		wantReal(t, "ExactDot in another order", moved, code, want, impl.OK)
		movedSign, _ := impl.SignOfDot(movedX, movedY)
		wantNumber(t, "SignOfDot in another order", movedSign, gotSign)
	}
}

func TestExactDotAtAllPlaces(t *testing.T) {
	fractions := []float32{1, 1.5, ofBits(0x3fffffff), ofBits(0x3f800001)}
	for e := -149; e <= 127; e++ {
		for f := -149; f <= 127; f += 7 {
			for _, fraction := range fractions {
				a := float32(math.Ldexp(float64(fraction), e))
				b := float32(math.Ldexp(1, f))
				x, y := []float32{a, -1, a}, []float32{b, least, minus(ofBits(0x3f800001))}
				want, sign := exactDot(x, y)
				got, code := impl.ExactDot(x, y)
				wantReal(t, "ExactDot", got, code, want, impl.OK)
				gotSign, _ := impl.SignOfDot(x, y)
				wantNumber(t, "SignOfDot", gotSign, sign)
			}
		}
	}
}

func TestSignOfDot(t *testing.T) {
	cases := []struct {
		x, y []float32
		want int64
	}{
		{nil, nil, 0},
		{[]float32{1, 1}, []float32{1, -1}, 0},
		{[]float32{minusZero}, []float32{1}, 0},
		{[]float32{least}, []float32{least}, 1},
		{[]float32{least}, []float32{minus(least)}, -1},
		{[]float32{greatest, greatest, least}, []float32{greatest, minus(greatest), minus(least)}, -1},
		{[]float32{greatest, greatest, least}, []float32{greatest, minus(greatest), least}, 1},
		{repeated(greatest, 256), repeated(greatest, 256), 1},
		{repeated(greatest, 256), repeated(minus(greatest), 256), -1},
	}
	for _, c := range cases {
		got, code := impl.SignOfDot(c.x, c.y)
		wantNumber(t, "SignOfDot", got, c.want)
		wantNumber(t, "code of SignOfDot", code, impl.OK)
	}
	for _, odd := range []float32{infinite, minus(infinite), notNumber, minus(notNumber)} {
		for _, x := range [][]float32{{odd, 1}, {1, odd}} {
			got, code := impl.SignOfDot(x, ones(2))
			turned, codeTurned := impl.SignOfDot([]float32{0, 0}, x)
			wantNumber(t, "SignOfDot of what is not finite", got, 0)
			wantNumber(t, "SignOfDot of what is not finite", turned, 0)
			wantNumber(t, "its code", code, impl.ErrRange)
			wantNumber(t, "its code", codeTurned, impl.ErrRange)
		}
	}
}

func TestSortReals(t *testing.T) {
	random := rand.New(rand.NewSource(8))
	for n := range impl.MaxList + 1 {
		list := randomList(random, n)
		if n > 2 {
			list[0], list[n/2], list[n-1] = notNumber, 0, minusZero
		}
		want := append([]float32{}, list...)
		sort.SliceStable(want, func(i, j int) bool { return placeForTest(want[i]) < placeForTest(want[j]) })
		got, code := impl.SortReals(list)
		if code != impl.OK || !sameLists(got, want) {
			t.Fatalf("SortReals(%v): got %v and %d", list, got, code)
		}
	}
	list := []float32{notNumber, infinite, 0, minus(notNumber), minusZero, -1, least, minus(infinite), minus(least), 0, greatest}
	want := []float32{minus(infinite), -1, minus(least), minusZero, 0, 0, least, greatest, infinite, notNumber, notNumber}
	got, code := impl.SortReals(list)
	if code != impl.OK || !sameLists(got, want) {
		t.Errorf("SortReals(%v): got %v and %d", list, got, code)
	}
}

// placeForTest orders numbers without the program: -0 before 0, NaN behind all.
func placeForTest(a float32) float64 {
	switch {
	case isNaN(a):
		return math.Inf(1)
	case isInf(a):
		return math.Copysign(1e300, float64(a))
	case a == 0 && math.Signbit(float64(a)):
		return -1e-300
	}
	return float64(a)
}

func TestListsHaveLimits(t *testing.T) {
	full, over := ones(impl.MaxList), repeated(notNumber, impl.MaxList+1)
	huge := ones(1000000)
	single := []func([]float32) (float32, int64){impl.SumOf, impl.ExactSum}
	for _, f := range single {
		got, code := f(full)
		wantReal(t, "sum of MaxList numbers", got, code, 256, impl.OK)
		for _, list := range [][]float32{over, huge} {
			got, code = f(list)
			wantReal(t, "sum of more", got, code, 0, impl.ErrLimit)
		}
	}
	sorted, code := impl.SortReals(full)
	if len(sorted) != impl.MaxList || code != impl.OK {
		t.Errorf("SortReals of MaxList numbers: got %d and %d", len(sorted), code)
	}
	for _, list := range [][]float32{over, huge} {
		sorted, code = impl.SortReals(list)
		if len(sorted) != 0 || code != impl.ErrLimit {
			t.Errorf("SortReals of more: got %d and %d", len(sorted), code)
		}
	}
}

// pairResults returns what the functions of two lists return, numbers as bits.
func pairResults(x, y []float32) map[string][2]int64 {
	dot, codeDot := impl.DotOf(x, y)
	exact, codeExact := impl.ExactDot(x, y)
	sign, codeSign := impl.SignOfDot(x, y)
	return map[string][2]int64{
		"DotOf":     {int64(bitsOf(dot)), codeDot},
		"ExactDot":  {int64(bitsOf(exact)), codeExact},
		"SignOfDot": {sign, codeSign},
	}
}

func TestPairsOfListsHaveLimitsAheadOfLengths(t *testing.T) {
	odd := []float32{infinite, notNumber}
	cases := []struct {
		x, y []float32
		want int64
	}{
		{ones(1), nil, impl.ErrRange},
		{nil, ones(1), impl.ErrRange},
		{ones(256), ones(255), impl.ErrRange},
		{ones(255), ones(256), impl.ErrRange},
		{odd, ones(1), impl.ErrRange},
		{ones(3), odd, impl.ErrRange},
		{ones(257), ones(257), impl.ErrLimit},
		{ones(257), ones(1), impl.ErrLimit},
		{nil, ones(257), impl.ErrLimit},
		{ones(257), odd, impl.ErrLimit},
		{odd, ones(257), impl.ErrLimit},
		{repeated(infinite, 257), repeated(notNumber, 257), impl.ErrLimit},
		{ones(1000000), ones(1000000), impl.ErrLimit},
	}
	for _, c := range cases {
		for name, got := range pairResults(c.x, c.y) {
			if got != [2]int64{0, c.want} {
				t.Errorf("%s of %d and %d numbers: got %v, want 0 and %d", name, len(c.x), len(c.y), got, c.want)
			}
		}
	}
	full := pairResults(ones(256), ones(256))
	sum := int64(bitsOf(256))
	for name, want := range map[string][2]int64{"DotOf": {sum, 0}, "ExactDot": {sum, 0}, "SignOfDot": {1, 0}} {
		if full[name] != want {
			t.Errorf("%s of MaxList numbers: got %v, want %v", name, full[name], want)
		}
	}
}

func TestExactSumsDoNotDependOnTheOrder(t *testing.T) {
	lists := [][]float32{
		{16777216, 1, 1, least},
		{greatest, greatest, minus(greatest), 1},
		{1e30, 1, -1e30, least},
		{infinite, 1, notNumber, minus(infinite)},
		{infinite, greatest, minus(greatest), -1},
	}
	for _, list := range lists {
		first, _ := impl.ExactSum(list)
		firstDot, _ := impl.ExactDot(list, repeated(minus(least), len(list)))
		eachOrder(list, 0, func(order []float32) {
			got, code := impl.ExactSum(order)
			wantReal(t, "ExactSum in another order", got, code, first, impl.OK)
			dot, code := impl.ExactDot(order, repeated(minus(least), len(list)))
			wantReal(t, "ExactDot in another order", dot, code, firstDot, impl.OK)
		})
	}
}

func eachOrder(list []float32, from int, visit func([]float32)) {
	if from == len(list) {
		visit(append([]float32{}, list...))
		return
	}
	for i := from; i < len(list); i++ {
		list[from], list[i] = list[i], list[from]
		eachOrder(list, from+1, visit)
		list[from], list[i] = list[i], list[from]
	}
}
