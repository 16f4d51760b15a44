package tests

import (
	"math/rand"
	"testing"

	"loop.example/g01171/impl"
)

func wantTurn(t *testing.T, a, b, c complex64, want int64) {
	t.Helper()
	got, code := impl.Orientation(a, b, c)
	if got != want || code != impl.OK {
		t.Errorf("Orientation %s, %s, %s: got %d and %s, want %d", bitsText(a), bitsText(b), bitsText(c), got, impl.CodeName(code), want)
	}
}

func TestOrientation(t *testing.T) {
	cases := []struct {
		a, b, c complex64
		want    int64
	}{
		{0, 1, 1i, 1},
		{0, 1i, 1, -1},
		{0, 1, 2, 0},
		{1 + 1i, 1 + 1i, 5, 0},
		{3, 3, 3, 0},
		{complex(0, 1), complex(minusZero, 2), complex(0, 3), 0},
		{0, complex(greatest, greatest), complex(minus(greatest), minus(greatest)), 0},
		{complex(least, 0), complex(greatest, greatest), complex(minus(greatest), minus(greatest)), 1},
		{complex(0, least), complex(greatest, greatest), complex(minus(greatest), minus(greatest)), -1},
		{0, complex(least, 0), complex(0, least), 1},
		{0, complex(0, least), complex(least, 0), -1},
		{0, complex(0.1, 0.1), complex(greatest, greatest), 0},
		{complex(greatest, 0), complex(minus(greatest), least), complex(greatest, least), -1},
		{16777216 + 1i, 8388608 + 0.5i, 0, 0},
		{16777216 + 1i, complex(8388609, 0.5), 0, -1},
		{complex(0.1, 0.3), complex(0.2, 0.6), complex(0.4, 1.2), 0}, // doubled twice
	}
	for _, c := range cases {
		wantTurn(t, c.a, c.b, c.c, c.want)
	}
}

// nearLine returns three points that are on a line, or just beside it.
func nearLine(random *rand.Rand) (complex64, complex64, complex64) {
	a, b := randomFinitePoint(random), randomFinitePoint(random)
	share := float32(random.Intn(5)) / 4
	c := complex(real(a)+share*(real(b)-real(a)), imag(a)+share*(imag(b)-imag(a)))
	if !isFinitePoint(c) || random.Intn(4) == 0 {
		c = randomFinitePoint(random)
	}
	return a, b, c
}

func TestOrientationIsExact(t *testing.T) {
	random := rand.New(rand.NewSource(23))
	seen := map[int64]int{}
	for range 3000 {
		a, b, c := nearLine(random)
		want := turnForTest(a, b, c)
		seen[want]++
		wantTurn(t, a, b, c, want)
		wantTurn(t, b, c, a, want) // taken in turn
		wantTurn(t, c, a, b, want)
		wantTurn(t, b, a, c, -want) // two exchanged
		wantTurn(t, a, c, b, -want)
		wantTurn(t, c, b, a, -want)
	}
	if seen[-1] < 100 || seen[0] < 100 || seen[1] < 100 {
		t.Errorf("the samples have too few turns of one side: %v", seen)
	}
}

func TestOrientationOfOddPoints(t *testing.T) {
	for _, odd := range oddPoints() {
		for _, points := range [][3]complex64{{odd, 0, 1}, {0, odd, 1}, {0, 1, odd}, {odd, odd, odd}} {
			got, code := impl.Orientation(points[0], points[1], points[2])
			wantNumber(t, "Orientation of odd points", got, 0)
			wantNumber(t, "its code", code, impl.ErrRange)
		}
	}
}
