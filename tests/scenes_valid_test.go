package tests

import (
	"fmt"
	"math/rand"
	"slices"
	"testing"

	"loop.example/g01171/impl"
)

// withOp is the scene of everyKind in which one operation is changed.
func withOp(i int, change func(*impl.Op)) impl.Scene {
	s := everyKind()
	change(&s.Ops[i])
	return s
}

// opChanges tells changes of all fields of an operation, of which each one alone makes an operation of every kind invalid.
func opChanges() map[string]func(*impl.Op) {
	list := map[string]func(*impl.Op){}
	for _, kind := range []int64{0, 5, -1, 6, 1 << 32, 1<<32 + 1, 1<<32 + 4, -1 << 63, 1<<63 - 1} {
		list[fmt.Sprint("kind ", kind)] = func(o *impl.Op) { o.Kind = kind }
	}
	for i, f := range invalidFamilies() {
		// A disc has no maps.
		if len(f.Maps) > 0 {
			list[fmt.Sprint("family ", i)] = func(o *impl.Op) { o.Family = f }
		}
	}
	for i, s := range invalidSpots() {
		list[fmt.Sprint("spot ", i)] = func(o *impl.Op) { o.Spot = s }
	}
	for _, depth := range oddDepths() {
		list[fmt.Sprint("depth ", depth)] = func(o *impl.Op) { o.Depth = depth }
	}
	for _, a := range []float32{-1, minus(least), minus(infinite), notNumber} {
		list[fmt.Sprint("small ", a)] = func(o *impl.Op) { o.Small = a }
		list[fmt.Sprint("radius ", a)] = func(o *impl.Op) { o.Radius = a }
	}
	list["infinite radius"] = func(o *impl.Op) { o.Radius = infinite }
	for _, x := range oddPoints() {
		list["centre "+bitsText(x)] = func(o *impl.Op) { o.Centre = x }
	}
	return list
}

// kindChanges tells changes that make an operation of some kinds invalid, those of which the index is listed.
func kindChanges() map[string]struct {
	change func(*impl.Op)
	kinds  []int
} {
	type changed = struct {
		change func(*impl.Op)
		kinds  []int
	}
	walks, disc, all := []int{0, 1, 2}, []int{3}, []int{0, 1, 2, 3}
	return map[string]changed{
		"no family":               {func(o *impl.Op) { o.Family = impl.Family{} }, walks},
		"an empty family":         {func(o *impl.Op) { o.Family.Maps = []impl.Map{} }, walks},
		"another family":          {func(o *impl.Op) { o.Family = shifts(1, 2, 3, 4) }, disc},
		"one map":                 {func(o *impl.Op) { o.Family = shifts(1) }, disc},
		"the far spot":            {func(o *impl.Op) { o.Spot = farSpot }, []int{2, 3}},
		"the spot 0":              {func(o *impl.Op) { o.Spot = near(0) }, nil},
		"the spot -0":             {func(o *impl.Op) { o.Spot = near(complex(minusZero, minusZero)) }, nil},
		"the least spot":          {func(o *impl.Op) { o.Spot = near(complex(least, 0)) }, disc},
		"an upright spot":         {func(o *impl.Op) { o.Spot = near(complex(0, minus(least))) }, disc},
		"the greatest spot":       {func(o *impl.Op) { o.Spot = near(complex(greatest, greatest)) }, disc},
		"no depth":                {func(o *impl.Op) { o.Depth = 0 }, nil},
		"the depth 1":             {func(o *impl.Op) { o.Depth = 1 }, disc},
		"most depth":              {func(o *impl.Op) { o.Depth = impl.MaxDepth }, disc},
		"small 0":                 {func(o *impl.Op) { o.Small = 0 }, []int{2}},
		"small -0":                {func(o *impl.Op) { o.Small = minusZero }, []int{2}},
		"least small":             {func(o *impl.Op) { o.Small = least }, []int{0, 1, 3}},
		"subnormal small":         {func(o *impl.Op) { o.Small = ofBits(0x007fffff) }, []int{0, 1, 3}},
		"small 1":                 {func(o *impl.Op) { o.Small = 1 }, []int{0, 1, 3}},
		"greatest small":          {func(o *impl.Op) { o.Small = greatest }, []int{0, 1, 3}},
		"infinite small":          {func(o *impl.Op) { o.Small = infinite }, []int{0, 1, 3}},
		"the centre 0":            {func(o *impl.Op) { o.Centre = 0 }, nil},
		"the centre -0":           {func(o *impl.Op) { o.Centre = complex(minusZero, minusZero) }, nil},
		"the least centre":        {func(o *impl.Op) { o.Centre = complex(least, 0) }, walks},
		"an upright centre":       {func(o *impl.Op) { o.Centre = complex(0, minus(least)) }, walks},
		"the greatest centre":     {func(o *impl.Op) { o.Centre = complex(minus(greatest), greatest) }, walks},
		"the radius 0":            {func(o *impl.Op) { o.Radius = 0 }, disc},
		"the radius -0":           {func(o *impl.Op) { o.Radius = minusZero }, disc},
		"the least radius":        {func(o *impl.Op) { o.Radius = least }, walks},
		"the greatest radius":     {func(o *impl.Op) { o.Radius = greatest }, walks},
		"all zeros being -0":      {minusZeros, nil},
		"the kind before":         {func(o *impl.Op) { o.Kind-- }, []int{0, 2, 3}},
		"the kind behind":         {func(o *impl.Op) { o.Kind++ }, []int{1, 2, 3}},
		"no fields but the kind":  {func(o *impl.Op) { *o = impl.Op{Kind: o.Kind} }, all},
		"nothing":                 {func(o *impl.Op) { *o = impl.Op{} }, all},
		"the kind alone, changed": {func(o *impl.Op) { o.Kind = 5 - o.Kind }, all},
	}
}

// minusZeros gives all zeros of an operation the other sign.
func minusZeros(o *impl.Op) {
	part := func(a float32) float32 {
		if a == 0 {
			return minusZero
		}
		return a
	}
	o.Small, o.Radius, o.Centre = part(o.Small), part(o.Radius), complex(part(real(o.Centre)), part(imag(o.Centre)))
	if !o.Spot.Far {
		o.Spot.At = complex(part(real(o.Spot.At)), part(imag(o.Spot.At)))
	}
}

// checkValidity checks ValidScene, and that no function takes a scene that is not valid.
func checkValidity(t *testing.T, name string, s impl.Scene, want bool) {
	t.Helper()
	wantBool(t, "ValidScene with "+name, impl.ValidScene(s), 0, want, 0)
	if want {
		return
	}
	for _, op := range []int64{0, -1, 100} {
		for function, call := range sceneFunctions(s, op, impl.Cell{}, impl.Corner{}, "") {
			if results, code := call(); code != impl.ErrInvalid || !areZero(results) {
				t.Errorf("%s with %s: got %v and %s", function, name, results, impl.CodeName(code))
			}
		}
	}
}

func TestValidScenes(t *testing.T) {
	checkValidity(t, "every kind", everyKind(), true)
	checkValidity(t, "no operations", sceneOf(1), true)
	checkValidity(t, "an empty list of operations", impl.Scene{Side: 1, Ops: []impl.Op{}}, true)
	for _, side := range []float32{least, ofBits(0x007fffff), leastNormal, 1, greatest} {
		s := everyKind()
		s.Side = side
		checkValidity(t, fmt.Sprint("the side ", side), s, true)
		checkValidity(t, fmt.Sprint("the side alone ", side), sceneOf(side), true)
	}
	for _, side := range []float32{0, minusZero, -1, minus(least), infinite, minus(infinite), notNumber, ofBits(0xffc00001)} {
		s := everyKind()
		s.Side = side
		checkValidity(t, fmt.Sprint("the side ", side), s, false)
		checkValidity(t, fmt.Sprint("the side alone ", side), sceneOf(side), false)
	}
	checkValidity(t, "nothing at all", impl.Scene{}, false)
	full := slices.Repeat(everyKind().Ops, 2)
	checkValidity(t, "most operations", sceneOf(1, full...), true)
	checkValidity(t, "an operation more", sceneOf(1, append(full, discOp(0, 1))...), false)
	checkValidity(t, "very many operations", sceneOf(1, slices.Repeat(full, 10000)...), false)
	checkValidity(t, "no valid last operation", sceneOf(1, append(slices.Clone(full[:7]), impl.Op{})...), false)
	checkValidity(t, "no valid first operation", sceneOf(1, slices.Insert(slices.Clone(full[:7]), 0, impl.Op{Kind: impl.OpDisc})...), false)
}

func TestFieldsOfValidScenes(t *testing.T) {
	for i := range everyKind().Ops {
		for name, change := range opChanges() {
			checkValidity(t, fmt.Sprint(name, " in ", i), withOp(i, change), false)
		}
		for name, c := range kindChanges() {
			checkValidity(t, fmt.Sprint(name, " in ", i), withOp(i, c.change), !slices.Contains(c.kinds, i))
		}
	}
}

// With zeros of the other sign, operations have the same visits, but for signs of zeros.
func TestScenesWithMinusZeros(t *testing.T) {
	for i := range everyKind().Ops {
		s := withOp(i, minusZeros)
		visits, code := impl.OpVisits(s, int64(i))
		want, wantCode := impl.OpVisits(everyKind(), int64(i))
		wantEqualVisits(t, "OpVisits with -0", visits, code, want, wantCode)
	}
}

func TestSameScene(t *testing.T) {
	differ := func(name string, s, other impl.Scene) {
		t.Helper()
		if impl.SameScene(s, other) || impl.SameScene(other, s) {
			t.Errorf("SameScene with %s: got true", name)
		}
	}
	same := func(name string, s, other impl.Scene) {
		t.Helper()
		if !impl.SameScene(s, other) || !impl.SameScene(other, s) {
			t.Errorf("SameScene with %s: got false", name)
		}
	}
	same("every kind", everyKind(), everyKind())
	same("nothing", impl.Scene{}, impl.Scene{Ops: []impl.Op{}})
	same("empty families", sceneOf(1, impl.Op{}), sceneOf(1, impl.Op{Family: impl.Family{Maps: []impl.Map{}}}))
	same("sides that are NaN", sceneOf(notNumber), sceneOf(ofBits(0xffc00001)))
	for i, side := range []float32{1, 0, minusZero, -1, infinite, minus(infinite), notNumber, least} {
		for j, other := range []float32{1, 0, minusZero, -1, infinite, minus(infinite), notNumber, least} {
			wantBool(t, fmt.Sprint("SameScene of sides ", side, other), impl.SameScene(sceneOf(side), sceneOf(other)), 0, i == j, 0)
		}
	}
	s := everyKind()
	for i := range s.Ops {
		for name, change := range opChanges() {
			differ(name, s, withOp(i, change))
			same(name, withOp(i, change), withOp(i, change))
		}
		differ("a field less", s, withOp(i, minusZeros))
		differ("an operation less", s, sceneOf(s.Side, slices.Delete(slices.Clone(s.Ops), i, i+1)...))
		differ("an operation more", s, sceneOf(s.Side, slices.Insert(slices.Clone(s.Ops), i, s.Ops[i])...))
		differ("an operation put elsewhere", s, sceneOf(s.Side, slices.Insert(slices.Delete(slices.Clone(s.Ops), i, i+1), (i+2)%4, s.Ops[i])...))
	}
	odd := impl.Op{Kind: 7, Family: familyOf(impl.Map{A: complex(notNumber, minusZero)}), Spot: impl.Spot{Far: true, At: complex(notNumber, 0)}, Small: notNumber, Centre: complex(minusZero, notNumber), Radius: notNumber, Depth: -1}
	same("NaN", sceneOf(1, odd), copyOfScene(sceneOf(1, odd)))
	for name, change := range map[string]func(*impl.Op){
		"kind": func(o *impl.Op) { o.Kind = 8 }, "maps": func(o *impl.Op) { o.Family.Maps[0].A = complex(notNumber, 0) }, "number of maps": func(o *impl.Op) { o.Family.Maps = append(o.Family.Maps, impl.Map{}) },
		"far": func(o *impl.Op) { o.Spot.Far = false }, "spot": func(o *impl.Op) { o.Spot.At = complex(notNumber, minusZero) }, "depth": func(o *impl.Op) { o.Depth = -2 },
		"small": func(o *impl.Op) { o.Small = 0 }, "centre": func(o *impl.Op) { o.Centre = complex(0, notNumber) }, "radius": func(o *impl.Op) { o.Radius = infinite },
	} {
		other := copyOfScene(sceneOf(1, odd))
		change(&other.Ops[0])
		differ(name, sceneOf(1, odd), other)
	}
	random := rand.New(rand.NewSource(620))
	for range 200 {
		s, other := randomScene(random), randomScene(random)
		same("a copy", s, copyOfScene(s))
		wantBool(t, "SameScene", impl.SameScene(s, other), 0, sameScenes(s, other), 0)
	}
	many := sceneOf(1, slices.Repeat(s.Ops, 20000)...)
	same("very many operations", many, copyOfScene(many))
}
