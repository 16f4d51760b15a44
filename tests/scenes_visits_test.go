package tests

import (
	"fmt"
	"math/rand"
	"slices"
	"testing"

	"loop.example/g01171/impl"
)

func checkVisits(t *testing.T, o impl.Op, side float32) ([]impl.Visit, int64) {
	t.Helper()
	visits, code := impl.OpVisits(sceneOf(side, o), 0)
	want, wantCode := opVisitsForTest(o, side)
	wantVisits(t, fmt.Sprint("OpVisits ", o, " with the side ", side), visits, code, want, wantCode)
	return visits, code
}

func TestOpVisits(t *testing.T) {
	random := rand.New(rand.NewSource(630))
	found := map[[2]int64]int{}
	for range 500 {
		o := randomOp(random)
		if random.Intn(4) == 0 && o.Kind != impl.OpDisc {
			o.Depth = random.Int63n(impl.MaxDepth + 1)
		}
		if random.Intn(5) == 0 && (o.Kind == impl.OpOrbit || o.Kind == impl.OpLimit) {
			o.Spot = randomSpot(random)
		}
		visits, code := checkVisits(t, o, []float32{1, 0.5, 0.1, 3, 1e-3, 0x1p-40}[random.Intn(6)])
		if code != impl.OK || len(visits) > 0 {
			found[[2]int64{o.Kind, code}]++
		}
	}
	for kind := int64(impl.OpOrbit); kind <= impl.OpDisc; kind++ {
		for _, code := range []int64{impl.OK, impl.ErrLimit} {
			if found[[2]int64{kind, code}] < 3 {
				t.Errorf("%d operations of the kind %d have the code %s", found[[2]int64{kind, code}], kind, impl.CodeName(code))
			}
		}
	}
}

// The visits of an operation are those of the functions of chapter 6.
func TestVisitsOfWalks(t *testing.T) {
	f := familyOf(impl.Map{A: 2, D: 1}, impl.Map{A: 1, B: 1, D: 1})
	for depth := range int64(impl.MaxDepth + 1) {
		for _, spot := range []impl.Spot{near(3), farSpot} {
			orbit, code := impl.OrbitOf(f, spot, depth)
			visits, got := impl.OpVisits(sceneOf(1, orbitOp(f, spot, depth)), 0)
			wantVisits(t, "OpVisits of an orbit", visits, got, orbit, code)
			longest := slices.DeleteFunc(orbit, func(v impl.Visit) bool { return int64(len(v.Word)) != depth })
			visits, got = impl.OpVisits(sceneOf(1, limitOp(f, spot, depth)), 0)
			wantVisits(t, "OpVisits of limits", visits, got, longest, code)
		}
		for _, small := range []float32{0.2, 1, infinite, least} {
			leaves, code := impl.LeavesOf(f, 3, small, depth)
			visits, got := impl.OpVisits(sceneOf(1, leavesOp(f, 3, small, depth)), 0)
			wantVisits(t, "OpVisits of leaves", visits, got, leaves, code)
		}
	}
	visits, code := impl.OpVisits(sceneOf(1, limitOp(shifts(1), near(5), 2)), 0)
	wantVisits(t, "OpVisits of limits", visits, code, visitsOf("aa", 7+0i, "AA", 3+0i), impl.OK)
	visits, code = impl.OpVisits(sceneOf(1, limitOp(shifts(1), near(5), 0)), 0)
	wantVisits(t, "OpVisits of no letters", visits, code, visitsOf("", 5+0i), impl.OK)
	visits, code = impl.OpVisits(sceneOf(1, leavesOp(familyOf(impl.Map{A: 0.25, D: 1}), 1, 0.5, 2)), 0)
	wantVisits(t, "OpVisits of leaves", visits, code, visitsOf("a", 0.25+0i, "AA", 16+0i), impl.OK)
}

func TestOpVisitsOfOtherOperations(t *testing.T) {
	s := everyKind()
	for op := range int64(4) {
		visits, code := impl.OpVisits(s, op)
		want, wantCode := opVisitsForTest(s.Ops[op], s.Side)
		wantVisits(t, fmt.Sprint("OpVisits ", op), visits, code, want, wantCode)
	}
	for _, op := range []int64{4, -1, 5, 8, 1 << 32, 1<<32 + 1, -1 << 32, -1 << 63, 1<<63 - 1} {
		visits, code := impl.OpVisits(s, op)
		wantVisits(t, fmt.Sprint("OpVisits ", op), visits, code, nil, impl.ErrRange)
	}
	for _, op := range []int64{0, -1, 1} {
		visits, code := impl.OpVisits(sceneOf(1), op)
		wantVisits(t, fmt.Sprint("OpVisits of nothing ", op), visits, code, nil, impl.ErrRange)
	}
	// Only the operation that is asked for is looked at.
	s = sceneOf(1, discOp(0, 100), discOp(0, 0.5), discOp(0, 100))
	visits, code := impl.OpVisits(s, 1)
	wantVisits(t, "OpVisits between others", visits, code, visitsOf("", 0i), impl.OK)
	for _, op := range []int64{0, 2} {
		visits, code = impl.OpVisits(s, op)
		wantVisits(t, "OpVisits of too great a disc", visits, code, nil, impl.ErrLimit)
	}
	visits, code = impl.OpVisits(s, 3)
	wantVisits(t, "OpVisits behind too great a disc", visits, code, nil, impl.ErrRange)
}

func TestDiscs(t *testing.T) {
	l := complex(float64(least), 0)
	cases := []struct {
		centre complex64
		radius float32
		side   float32
		want   []impl.Visit
	}{
		{0, 1, 1, visitsOf("", -1+0i, "", -1i, "", 0i, "", 1i, "", 1+0i)},
		{0, 0.5, 1, visitsOf("", 0i)}, {0, least, 1, visitsOf("", 0i)}, {0, 0.9999999, 1, visitsOf("", 0i)}, {5 - 7i, 0.25, 1, visitsOf("", 5-7i)},
		{0.5 + 0.5i, 0.25, 1, nil}, {0.5 + 0.5i, 0.7, 1, nil}, {0.5 + 0.5i, 0.7071067, 1, nil}, {0.5 + 0.5i, 0.70710677, 1, visitsOf("", 0i, "", 1i, "", 1+0i, "", 1+1i)},
		{0.5, 0.5, 1, visitsOf("", 0i, "", 1+0i)}, {0.5i, 0.5, 1, visitsOf("", 0i, "", 1i)}, {0.5, 0.49999997, 1, nil}, {-2.5 + 3i, 0.5, 1, visitsOf("", -3+3i, "", -2+3i)},
		{0, 0.5, 0.25, visitsOf("", -0.5+0i, "", -0.25-0.25i, "", -0.25+0i, "", -0.25+0.25i, "", -0.5i, "", -0.25i, "", 0i, "", 0.25i, "", 0.5i, "", 0.25-0.25i, "", 0.25+0i, "", 0.25+0.25i, "", 0.5+0i)},
		{3, 3, 3, visitsOf("", 0i, "", 3-3i, "", 3+0i, "", 3+3i, "", 6+0i)}, {1 + 1i, 1, 4, nil}, {1 + 1i, 1.5, 4, visitsOf("", 0i)},
		{complex(greatest, 0), 1, greatest, visitsOf("", complex(float64(greatest), 0))},
		// The corners in question are infinite.
		{complex(minus(greatest), 0), 1, 0.75 * greatest, nil}, {complex(0, minus(greatest)), 1, 0.75 * greatest, nil},
		// The root of 2, times the least number, is narrowed to this.
		{complex(least, least), least, least, visitsOf("", 0i, "", l*1i, "", 2*l*1i, "", l, "", l+l*1i, "", l+2*l*1i, "", 2*l, "", 2*l+l*1i, "", 2*l+2*l*1i)},
	}
	for _, c := range cases {
		o := discOp(c.centre, c.radius)
		visits, code := checkVisits(t, o, c.side)
		wantEqualVisits(t, fmt.Sprint("OpVisits ", o, c.side), visits, code, c.want, impl.OK)
	}
}

// The numbers of the second cell are just MaxDiscSide greater than those of the first one, or more.
func TestGreatestDiscs(t *testing.T) {
	cases := []struct {
		centre complex64
		radius float32
		side   float32
		code   int64
	}{
		{0, 24, 1, impl.OK}, {0.5, 24, 1, impl.OK}, {0.5 + 0.5i, 24, 1, impl.OK}, {0, 24.5, 1, impl.ErrLimit}, {0, 24.000002, 1, impl.ErrLimit}, {0.5 + 0.5i, 24.49, 1, impl.OK}, {0.5 + 0.5i, 24.5, 1, impl.ErrLimit}, {0.25 + 0.25i, 24.25, 1, impl.OK},
		{0.25, 24.25, 1, impl.ErrLimit}, {0.25i, 24.25, 1, impl.ErrLimit}, {0, 24.25, 1, impl.ErrLimit}, {0, 25, 1, impl.ErrLimit}, {0, 6, 0.25, impl.OK}, {0, 6.25, 0.25, impl.ErrLimit}, {1000 - 1000i, 24, 1, impl.OK}, {1000 - 1000i, 25, 1, impl.ErrLimit},
		{999990, 24, 1, impl.OK}, {-1073741800, 8, 1, impl.OK}, {1073741700, 64, 1, impl.ErrLimit}, {1073741760, 0.5, 1, impl.OK}, {1073741760i, 24, 1, impl.OK}, {1073741824, 24, 1, impl.OK}, {1073741824i, 24, 1, impl.OK}, {-1073741824, 24, 1, impl.OK},
		// One of both cells is not found.
		{1073741824, 64.5, 1, impl.ErrLimit}, {1073741824, 128, 1, impl.ErrLimit}, {-1073741824, 64.5, 1, impl.ErrLimit}, {-1073741824i, 128, 1, impl.ErrLimit}, {1073741824i, 128, 1, impl.ErrLimit}, {1073741952, 1, 1, impl.ErrLimit}, {-1073741952, 1, 1, impl.ErrLimit}, {1e30, 1, 1, impl.ErrLimit}, {1e30i, 1, 1, impl.ErrLimit}, {0, 1e30, 1, impl.ErrLimit},
		{complex(greatest, 0), greatest, greatest, impl.ErrLimit}, {complex(0, greatest), greatest, greatest, impl.ErrLimit}, {complex(minus(greatest), 0), greatest, greatest, impl.ErrLimit}, {complex(0, minus(greatest)), greatest, greatest, impl.ErrLimit}, {complex(greatest, 0), 1e31, greatest, impl.OK}, {complex(greatest, 0), 1.1e31, greatest, impl.ErrLimit}, {0, greatest, greatest, impl.OK}, {1, least, least, impl.ErrLimit}, {0, 1, least, impl.ErrLimit},
		// The difference of both numbers is more than a narrow integer has.
		{0, 1073741824, 1, impl.ErrLimit}, {0, 1073741800, 1, impl.ErrLimit}, {0.5, 1073741824, 1, impl.ErrLimit}, {0, 0x1p29, 0.5, impl.ErrLimit}, {0, 65536, 0x1p-14, impl.ErrLimit},
	}
	for _, c := range cases {
		o := discOp(c.centre, c.radius)
		visits, code := checkVisits(t, o, c.side)
		if code != c.code || code != impl.OK && visits != nil {
			t.Errorf("OpVisits %v with the side %v: got %d visits and %s", o, c.side, len(visits), impl.CodeName(code))
		}
	}
}

// Discs have the cells that lie in them, found among all cells around.
func TestCellsOfDiscs(t *testing.T) {
	random := rand.New(rand.NewSource(631))
	for range 200 {
		// All numbers are exact here.
		x, y, r := random.Intn(400)-200, random.Intn(400)-200, 1+random.Intn(160)
		o := discOp(complex(float32(x)/16, float32(y)/16), float32(r)/16)
		visits, code := impl.OpVisits(sceneOf(0.5, o), 0)
		var want []impl.Visit
		for i := -60; i <= 60; i++ {
			for j := -60; j <= 60; j++ {
				if dx, dy := 8*i-x, 8*j-y; dx*dx+dy*dy <= r*r {
					want = append(want, impl.Visit{Spot: near(complex(float32(i)/2, float32(j)/2))})
				}
			}
		}
		wantVisits(t, fmt.Sprint("OpVisits ", o), visits, code, want, impl.OK)
	}
}
