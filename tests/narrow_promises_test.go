package tests

import (
	"math/rand"
	"testing"

	"loop.example/g01171/impl"
)

// guarded returns a list with room behind it, and a function that reports whether list and room are as before.
func guarded(list []float32) ([]float32, func() bool) {
	const room = 16
	whole := append(append(make([]float32, 0, len(list)+room), list...), repeated(12345, room)...)
	before := append([]float32{}, whole...)
	return whole[:len(list)], func() bool { return sameLists(whole, before) }
}

func TestListsAreNotChanged(t *testing.T) {
	random := rand.New(rand.NewSource(9))
	for range 200 {
		n := random.Intn(20)
		x, isKept := guarded(randomList(random, n))
		y, isOtherKept := guarded(randomList(random, n))
		impl.SumOf(x)
		impl.ExactSum(x)
		impl.DotOf(x, y)
		impl.ExactDot(x, y)
		impl.SignOfDot(x, y)
		sorted, _ := impl.SortReals(x)
		if !isKept() || !isOtherKept() {
			t.Fatal("a list was changed")
		}
		sorted = append(sorted, 99)
		for i := range sorted {
			sorted[i] = 77
		}
		if !isKept() {
			t.Fatal("SortReals returns memory of its argument")
		}
	}
}

func TestSortedListsShareNoMemory(t *testing.T) {
	for _, list := range [][]float32{{1}, {1, 2, 3}, {3, 2, 1}} {
		first, _ := impl.SortReals(list)
		second, _ := impl.SortReals(list)
		first[0] = 77
		if second[0] != 1 {
			t.Error("two sorted lists share memory")
		}
	}
}

func TestEqualArgumentsHaveEqualResults(t *testing.T) {
	random := rand.New(rand.NewSource(10))
	for range 300 {
		n := random.Intn(30)
		x, y := randomList(random, n), randomList(random, n)
		copied, _ := guarded(x)
		other, _ := guarded(y)
		first, second := pairResults(x, y), pairResults(copied, other)
		for name := range first {
			isOdd := isNaN(ofBits(uint32(first[name][0]))) && isNaN(ofBits(uint32(second[name][0])))
			if first[name] != second[name] && !isOdd {
				t.Errorf("%s: first %v, then %v", name, first[name], second[name])
			}
		}
		sum, _ := impl.SumOf(x)
		again, _ := impl.SumOf(copied)
		wantReal(t, "SumOf again", again, 0, sum, 0)
		exact, _ := impl.ExactSum(x)
		again, _ = impl.ExactSum(copied)
		wantReal(t, "ExactSum again", again, 0, exact, 0)
		sorted, _ := impl.SortReals(x)
		sortedAgain, _ := impl.SortReals(copied)
		if !sameLists(sorted, sortedAgain) {
			t.Errorf("SortReals: first %v, then %v", sorted, sortedAgain)
		}
	}
}

func TestExactSumsOfSmallWholeNumbersAreSums(t *testing.T) {
	random := rand.New(rand.NewSource(11))
	for range 500 {
		n := 1 + random.Intn(impl.MaxList)
		x, y := make([]float32, n), make([]float32, n)
		for i := range x {
			x[i], y[i] = float32(random.Intn(201)-100), float32(1+random.Intn(100))
		}
		sum, _ := impl.SumOf(x)
		exact, _ := impl.ExactSum(x)
		wantReal(t, "ExactSum of small whole numbers", exact, 0, sum+0, 0)
		dot, _ := impl.DotOf(x, y)
		exact, _ = impl.ExactDot(x, y)
		wantReal(t, "ExactDot of small whole numbers", exact, 0, dot+0, 0)
	}
}

func TestExampleOfChapter1(t *testing.T) {
	negative, fraction, exponent, code := impl.SplitReal(1)
	if negative || fraction != 8388608 || exponent != -23 || code != impl.OK {
		t.Errorf("SplitReal(1): got %t %d %d %d", negative, fraction, exponent, code)
	}
	first, code := impl.FromOrderKey(1)
	wantNumber(t, "code of FromOrderKey", code, impl.OK)
	wantNumber(t, "kind of the number with the place 1", impl.KindOf(first), impl.KdSubnormal)
	key, _ := impl.OrderKey(2 * first)
	wantNumber(t, "place of twice it", key, 2)
	second, _ := impl.FromOrderKey(2)
	scaled, code := impl.ScaleReal(1, -150)
	wantReal(t, "ScaleReal(1, -150)", scaled, code, 0, impl.OK)
	scaled, code = impl.ScaleReal(3, -150)
	wantReal(t, "ScaleReal(3, -150)", scaled, code, second, impl.OK)
	list := []float32{16777216, 1, 1}
	exact, code := impl.ExactSum(list)
	wantReal(t, "ExactSum", exact, code, 16777218, impl.OK)
	sum, code := impl.SumOf(list)
	wantReal(t, "SumOf", sum, code, 16777216, impl.OK)
	if text := impl.RealText(1); text != "3f800000" {
		t.Errorf("RealText(1): got %q", text)
	}
}
